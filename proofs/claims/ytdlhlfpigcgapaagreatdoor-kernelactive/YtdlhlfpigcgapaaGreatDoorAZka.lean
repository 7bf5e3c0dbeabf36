import Derived.Test.YtdlhlfpigcgapaaGreatDoorAZal
import Derived.Test.YtdlhlfpigcgapaaGreatDoorAXt
import Derived.Test.YtdlhlfpigcgapaaGreatDoorAXr
import Derived.Test.YtdlhlfpigcgapaaGreatDoorAXi
import Derived.Test.YtdlhlfpigcgapaaGreatDoorAXn
import Derived.Test.YtdlhlfpigcgapaaGreatDoorAXc
import Derived.Test.YtdlhlfpigcgapaaGreatDoorAXo
import Derived.Test.YtdlhlfpigcgapaaGreatDoorAXg
import Derived.Test.YtdlhlfpigcgapaaGreatDoorAXk
import Derived.Test.YtdlhlfpigcgapaaGreatDoorAXh
import Derived.Test.YtdlhlfpigcgapaaGreatDoorAXe
import Derived.Test.YtdlhlfpigcgapaaGreatDoorAXy
import Derived.Test.YtdlhlfpigcgapaaGreatDoorAXm
import Derived.Test.YtdlhlfpigcgapaaGreatDoorAXv
import Derived.Test.YtdlhlfpigcgapaaGreatDoorAXd
set_option maxRecDepth 100000
set_option maxHeartbeats 16000000
set_option linter.unusedVariables false
set_option linter.unusedSimpArgs false
set_option linter.defProp false
namespace Go.Proofs.YtdlhlfpigcgapaaGreatDoor.Krn
open Go.Proofs.Tryz
open Mm
structure Ev where
 kind:Int
 cpu:Int
 id:Int
 mask:Nat
 n:Int
structure Rec where
 kind:Int
 cpu:Int
 id:Int
 n:Int
 why:Int
structure KS where
 on:Nat
 ac:Nat
 O:Nat->Bool
 X:Nat->Tm.Th
 q:Rqu.Ks
 now:Int
 t:Zm.Ks
 i:Nat->Bm.Iq
 r:Nat->Int
 wk:List (List Int)
 cl:List (List Int)
 oa:List Nat
 ok:List (List Int)
 ct:List Int
 R:Option Hp.Rq
 P:Int->Bool
 gs:Int
 gl:List Int
 sl:Nat
 sh:Nat
 z:List (Bool×Bool)
def lv (a b:Int):Int:=if a<0\/1152921504606846976<a\/b<0\/1073741824<b then 0 else if 1152921504606846976<a+b then 0 else a+b
def le (a b:Int):Int:=if a<0\/1152921504606846976<a\/b<0\/1073741824<b then 2 else if 1152921504606846976<a+b then 16 else 0
def AJ (n:Nat) (c:Int):Bool:=decide (0<=c)&&decide (c<(n:Int))
def Ao (S:KS) (id:Int):Tm.Th:=Tm.Cc S.O S.X id
def ER (S:KS) (id:Int):Int:=if Sl.hs 32 S.O id=true then 0 else 4
def zc (S:KS) (c:Int):Bool×Bool:=S.z.getD c.toNat (false,false)
variable (n:Nat)
def El (S:KS) (id p c:Int) (f:Bool):Int×KS:=
 if Tm.Dk n S.O id c=0 then (Rqu.PV n S.q c p id,{ S with X:=Tm.GA n S.O S.X id c f,q:=Rqu.Hu n S.q c p id }) else (Tm.Dk n S.O id c,S)
def put (S:KS) (id near:Int):Int×KS:=
 if ER S id=0 then El n S id (Ao S id).prio (Aff.cN (Ao S id).mask S.ac near) (Aff.cF (Ao S id).mask S.ac) else (ER S id,S)
def QH (S:KS) (p:Int) (m:Nat):KS:={ S with O:=Tm.YC n S.O p m,X:=Tm.RI n S.O S.X p m }
def spawn (S:KS) (p:Int) (m:Nat):Int×Int×KS:=
 if Tm.LB n S.O p m=0 then
  (Tm.Gl n S.O p m,(put n (QH n S p m) (Tm.Gl n S.O p m) ((Tm.Gl n S.O p m).tmod n)).1,(put n (QH n S p m) (Tm.Gl n S.O p m) ((Tm.Gl n S.O p m).tmod n)).2)
 else (0,Tm.LB n S.O p m,S)
def JT (S:KS) (id:Int):KS:={ S with q:=Rqu.Jh n S.q id }
def move (S:KS) (id near:Int):Int×KS:=if Rqu.D7 n S.q id=0 then put n (JT n S id) id near else (Rqu.D7 n S.q id,S)
def item (S:KS) (id:Int):Aff.It:=⟨id,(Ao S id).mask,(Ao S id).cpu,(Ao S id).forced⟩
def JB (S:KS) (id:Int):Int×KS:=
 if ER S id=0 then (if (Ao S id).sleeps=true then (0,S) else if Aff.QF S.ac (item S id)=true then move n S id (Ao S id).cpu else (0,S)) else (ER S id,S)
def VV (S:KS) (x:Int):KS:={ S with t:=Zm.Yv n S.t x }
def lG (S:KS) (id:Int):KS:={ S with O:=Sl.gO 32 S.O id,X:=Tm.PJ S.O S.X id }
def exit (S:KS) (id:Int) (t:Tm.Th):Int×KS:=(Sl.gE 32 S.O id,lG (if t.sleeps=true then VV n S t.timer else JT n S id) id)
def yield (S:KS) (id:Int) (t:Tm.Th):Int×KS:=if t.sleeps=true then (6,S) else (Rqu.D7 n S.q id,{ S with q:=Rqu.Mj n S.q id })
def arm (S:KS) (c d:Int):Int×Int×KS:=
 if le S.now d=0 then (Tim.Yy n S.t c (lv S.now d),Tim.kL n S.t c (lv S.now d),{ S with t:=Tim.Pf n S.t c (lv S.now d) }) else (0,le S.now d,S)
def G7 (S:KS) (c:Int):Int:=if tb S.ac c=true then c else ((hd (ls S.ac):Nat):Int)
def slS (S:KS) (id x:Int):KS:={ S with q:=Rqu.Jh n S.q id,X:=Tm.Jb S.O S.X id x }
def sleep (S:KS) (id:Int) (t:Tm.Th) (d:Int):Int×Int×KS:=
 if t.sleeps=true then (0,6,S) else if (arm n S (G7 S t.cpu) d).2.1=0 then ((arm n S (G7 S t.cpu) d).1,Tm.MW (arm n S (G7 S t.cpu) d).2.2.O (arm n S (G7 S t.cpu) d).2.2.X id,slS n (arm n S (G7 S t.cpu) d).2.2 id (arm n S (G7 S t.cpu) d).1) else (0,(arm n S (G7 S t.cpu) d).2.1,(arm n S (G7 S t.cpu) d).2.2)
def Sn (S:KS) (id:Int):KS:={ S with X:=Tm.MX S.O S.X id }
def JC (S:KS) (id:Int) (t:Tm.Th):Int×KS:=if Tm.Ax S.O S.X id=0 then put n (Sn S id) id t.cpu else (Tm.Ax S.O S.X id,S)
def G8 (S:KS) (id:Int) (t:Tm.Th):Int×KS:=if t.sleeps=true then JC n (VV n S t.timer) id t else (6,S)
def So (S:KS) (id:Int) (m:Nat):KS:={ S with X:=Tm.LC n S.O S.X id m }
def QI (S:KS) (id:Int) (m:Nat):Int×KS:=if Tm.B8 n S.O id m=0 then JB n (So n S id m) id else (Tm.B8 n S.O id m,S)
def Db (S:KS):Int:=Rqb.JH (Rqu.Bs n S.q) Rqb.Ml (Rqb.bc S.ac n)
def QJ (S:KS):Int:=Rqb.JH (Rqu.Bs n S.q) Rqb.Mn (Rqb.bc S.ac n)
def yI (S:KS):Option Int:=(Rqu.GD n S.q (Db n S)).reverse.find? λid=>tb (Ao S id).mask (QJ n S)
def XC (S:KS) (c:Int):Option Int->Int×Int×KS
 | some id=>(id,(El n (JT n S id) id (Ao S id).prio c false).1,(El n (JT n S id) id (Ao S id).prio c false).2)
 | none=>(0,0,S)
def balance (S:KS):Int×Int×KS:=
 if Rqb.E1 (Rqb.bc S.ac n)=0 then (if Rqu.Bs n S.q (Db n S)-Rqu.Bs n S.q (QJ n S)<2 then (0,0,S) else XC n S (QJ n S) (yI n S))
 else (0,Rqb.E1 (Rqb.bc S.ac n),S)
def own (S:KS) (x:Int):Int:=((Sl.li 32 S.O).find? λid=>(Ao S id).sleeps&&(Ao S id).timer==x).getD 0
def cancel (S:KS) (id:Int):Int×KS:=if own S id=0 then (Zm.kK n S.t id,VV n S id) else (6,S)
def Sp (S:KS) (k near:Int):Int:=Aff.cN (Bm.Cc S.i k).bs S.ac near
def send (S:KS) (k near:Int):Int×KS:=
 if Bm.FV k=0 then (Nm.Gu n k (Sp S k near),{ S with r:=Nm.A7 (Nm.Gu n k (Sp S k near)) S.r k (Sp S k near) }) else (Bm.FV k,S)
def Sq (S:KS) (k:Int) (m:Nat):KS:={ S with i:=Bm.A7 (Bm.EA n S.i k m) S.i k (Bm.nw m) }
def request (S:KS) (k:Int) (m:Nat):Int×KS:=if Bm.EA n S.i k m=0 then send n (Sq n S k m) k (k.tmod n) else (Bm.EA n S.i k m,S)
def free (S:KS) (k:Int):Int×KS:=
 if Bm.Aa S.i k=0 then (Nm.H8 S.r k,{ S with i:=Bm.A7 (Bm.Aa S.i k) S.i k Bm.zi,r:=Nm.A7 (Nm.H8 S.r k) S.r k (-1) }) else (Bm.Aa S.i k,S)
def lH (S:KS) (k:Int):Aff.It:=⟨k,(Bm.Cc S.i k).bs,Nm.FW S.r k,!tb (Bm.Cc S.i k).bs (Nm.FW S.r k)⟩
def Du (S:KS) (k:Int):Int×KS:=
 if Bm.FV k=0 then (if Aff.QF S.ac (lH S k)=true then send n S k (Nm.FW S.r k) else (0,S)) else (Bm.FV k,S)
def VW (S:KS) (k:Int) (m:Nat):KS:={ S with i:=Bm.A7 (Bm.B8 n S.i k m) S.i k { S.i k.toNat with bs:=m } }
def FD (S:KS) (k:Int) (m:Nat):Int×KS:=if Bm.B8 n S.i k m=0 then Du n (VW n S k m) k else (Bm.B8 n S.i k m,S)
def J7 (S:KS) (k:Int) (b:Bool):Int×KS:=(Bm.EC S.i k b,{ S with i:=Bm.A7 (Bm.EC S.i k b) S.i k { S.i k.toNat with ms:=b } })
def raise (S:KS) (k:Int):Int×KS:=(Bm.Aa S.i k,{ S with i:=Bm.A7 (Bm.Aa S.i k) S.i k { S.i k.toNat with pd:=true } })
def flush (S:KS) (id:Int):Int×Int:=if id<1\/32<id then (0,2) else if Cm.JK S.wk id=true then (1,0) else (0,0)
def Bk (S:KS) (c:Int):Int:=((hd (ls (nt S.ac (bv c))):Nat):Int)
def Lg (S:KS) (up:Bool) (c:Int):KS:={ S with R:=Hp.EF S.R up c (Bk S c),gs:=Em.SR S.gs }
def Ck (S:KS) (up:Bool) (c:Int):Int×KS:=
 if AJ n c=false then (3,S) else if S.R.isSome=true then (7,S) else if up=true/\tb S.on c=true then (8,S) else if up=false/\tb S.on c=false then (9,S)
 else if up=false/\(ls S.on).length=1 then (10,S) else if Hp.BF S.R c (Bk S c)=0 then (Em.Aa S.gs,Lg S up c) else (Hp.BF S.R c (Bk S c),S)
def J8 (S:KS) (k:Int):Int×KS:=if k<0\/10<=k then (3,S) else (Hp.Dk k,{ S with P:=Hp.Zk S.P k })
def shift (S:KS) (c:Int):Bool×KS:=match Rqu.GD n S.q c with
 | []=>(true,S)
 | id::_=>(false,(move n S id c).2)
def EH (z:List (Bool×Bool)) (c:Int) (on:Bool):List (Bool×Bool):=if Cor.Co.Bt z.length c=true then (if (z.getD c.toNat (false,false)).1=on then z else z.set c.toNat (on,false)) else z
def Cl (S:KS) (c:Int):List Int:=KK (Nm.on S.r c) 16
def sendAll (S:KS) (c:Int) (l:List Int):KS:=l.foldl (λS k=>(send n S k c).2) S
def Dv (S:KS) (c b:Int):Bool×KS:=
 if Ek.Gb S.sl S.sh=true then (if Ek.GR S.sl S.sh=true then (true,{ sendAll n S c (Cl S c) with sl:=0,sh:=0 }) else (false,S))
 else (false,{ S with sl:=Ek.NQ S.sl S.sh (nt (wl S.ac [c]) (bv b)) })
def Qq (S:KS):KS:={ S with gs:=Em.Py S.gs S.gl }
def drain (S:KS) (c:Int):KS:={ S with oa:=Hm.Px 12 n S.oa S.ok c,ok:=Hm.H' n S.ok c }
def leave (S:KS) (st c b:Int):Bool×KS:=
 if st=0 then (Em.Bg S.gs S.gl==0,Qq S)
 else if st=1 then (true,{ S with ac:=nt S.ac (bv c) })
 else if st=2 then shift n S c
 else if st=3 then (!(Tim.GQ n S.t c b==0),{ S with t:=Tim.DV n S.t c b })
 else if st=4 then (!(Cm.Ry n S.wk c==0),{ S with wk:=Cm.Rz n S.wk c })
 else if st=5 then (!(Cm.GQ S.cl c b==0),{ S with cl:=Cm.DV S.cl c b })
 else if st=6 then Dv n S c b
 else if st=7 then (true,drain n S c)
 else if st=8 then (true,{ S with ct:=Pm.E7 S.ct c b })
 else if st=9 then (true,{ S with on:=nt S.on (bv c),z:=EH S.z c false })
 else (true,S)
def Sr (S:KS) (st c:Int):KS:=if st=1 then { S with ac:=wl S.ac [c] } else S
def Bv (S:KS) (l:List Int):KS:=l.foldl (λS id=>(JB n S id).2) S
def BO (S:KS) (l:List Int):KS:=l.foldl (λS k=>(Du n S k).2) S
def FJ (S:KS):List Int:=KK (λk=>(S.i k).wt) 16
def XD (S:KS):KS:=Bv n S (Sl.li 32 S.O)
def home (S:KS):KS:=BO n (XD n S) (FJ (XD n S))
def Hd (S:KS) (c:Int):KS:={ S with on:=wl S.on [c],ac:=wl S.ac [c] }
def Ef (S:KS) (st c:Int):Bool×KS:=
 if st=0 then (Em.Bg S.gs S.gl==0,Qq S)
 else if st=1 then (true,{ S with z:=EH S.z c true })
 else if st=2 then (true,drain n S c)
 else if st=3 then (true,home n (Hd S c))
 else (true,S)
def J9 (S:KS) (st c:Int):KS:=if st=1 then { S with z:=EH S.z c false } else S
def He (S:KS) (k:Int) (u:Bool):Bool×KS:=
 if u=true then (true,if Hp.BC S.R=true then J9 S k (Hp.Bq S.R) else Sr S k (Hp.Bq S.R))
 else if Hp.BC S.R=true then Ef n S k (Hp.Bq S.R) else leave n S k (Hp.Bq S.R) (Hp.cos S.R)
def AZ (S:KS):KS:={ S with R:=Hp.NT S.P S.R,P:=Hp.xN S.P S.R }
def IS (S:KS):KS:={ S with R:=Hp.Zl S.R }
def BP (S:KS):KS:=
 if Hp.CV S.R=0/\Hp.JO S.P S.R=false then (if (He n (AZ S) (Hp.FZ S.R:Nat) (Hp.Fa S.R)).1=true then IS (He n (AZ S) (Hp.FZ S.R:Nat) (Hp.Fa S.R)).2 else (He n (AZ S) (Hp.FZ S.R:Nat) (Hp.Fa S.R)).2) else AZ S
def act (S:KS):List Rec×KS:=
 if Hp.NR (BP n S).R=true then ([⟨7,Hp.Bq (BP n S).R,0,0,Hp.Lc (BP n S).R⟩],{ BP n S with R:=Hp.VL (BP n S).R,gs:=0 }) else ([],BP n S)
def Bh (S:KS) (c:Int):Option Int:=(Cl S c).find? λk=>Bm.GR S.i k
def flags (S:KS) (c:Int):Cor.Co.Fl where
 stop:=tb S.sl c
 held:=tb S.sh c
 hot:=S.R.isSome&&Hp.cos S.R==c
 act:=tb S.ac c
 call:=decide (0<(Cm.LP S.cl c).length)
 irq:=(Bh S c).isSome
 timer:=Tim.U0 n S.now S.t c
 work:=decide (0<(Cm.E4 n S.wk c).length) || decide (0<(Cm.E4 n S.wk (-1)).length)
 thr:=decide (0<Rqu.Bs n S.q c)
def A0 (S:KS) (c:Int):Int:=Cor.Co.next (zc S c).1 (zc S c).2 (flags n S c)
def G9 (S:KS) (c:Int):KS:=if (zc S c).2=true then { S with z:=S.z.set c.toNat ((zc S c).1,false) } else S
def En (S:KS) (c:Int):KS:=if (zc S c).1=true/\(zc S c).2=false then { S with z:=S.z.set c.toNat (true,true) } else S
def XE (S:KS) (c:Int):KS:={ S with sl:=Ek.VJ S.sl c,sh:=Ek.VK S.sl S.sh c }
def Ha (S:KS) (c:Int):KS:={ S with t:=Tim.Rn n S.now S.t c }
def Nj (S:KS) (c:Int):Int:=own (Ha n S c) (Tim.Pi n S.now S.t c)
def Bz (S:KS) (c:Int):Int×Int×KS:=
 (Tim.Pi n S.now S.t c,Nj n S c,if ER (Ha n S c) (Nj n S c)=0 then (JC n (Ha n S c) (Nj n S c) (Ao (Ha n S c) (Nj n S c))).2 else Ha n S c)
def BI (S:KS) (c:Int):KS:={ S with ct:=Pm.Dn S.ct c 1 }
def Bc (S:KS) (wh c:Int):Rec×KS:=
 if wh=4 then (⟨6,c,Cm.LO S.cl c,0,0⟩,{ BI S c with cl:=Cm.NH S.cl c })
 else if wh=5 then (⟨4,c,(Bh S c).getD 0,0,0⟩,{ BI S c with i:=Bm.A7 (Bm.Jn S.i ((Bh S c).getD 0)) S.i ((Bh S c).getD 0) { S.i ((Bh S c).getD 0).toNat with pd:=false } })
 else if wh=6 then (⟨3,c,(Bz n (BI S c) c).1,(Bz n (BI S c) c).2.1,0⟩,(Bz n (BI S c) c).2.2)
 else if wh=7 then (⟨5,c,Cm.LQ n S.wk c,0,0⟩,{ BI S c with wk:=Cm.Rx n S.wk c })
 else if wh=8 then (⟨2,c,Rqu.Jg n S.q c,0,0⟩,{ BI S c with q:=Rqu.LH n S.q c })
 else (⟨0,c,0,0,0⟩,BI S c)
def step (S:KS) (c:Int):List Rec×KS:=
 if A0 n S c=0 then ([],S) else if A0 n S c=1 then ([],G9 S c) else if A0 n S c=2 then ([],XE S c) else if A0 n S c=9 then ([],En S c)
 else if A0 n S c=3 then act n S else ([(Bc n S (A0 n S c) c).1],(Bc n S (A0 n S c) c).2)
def no (r:Int×KS):Int×Int×KS:=(0,r.1,r.2)
def Nk (S:KS) (id:Int) (f:Tm.Th->Int×Int×KS):Int×Int×KS:=if ER S id=0 then f (Ao S id) else (0,ER S id,S)
def IU (S:KS) (c:Int) (f:Int×Int×KS):Int×Int×KS:=if AJ n c=false then (0,3,S) else if tb S.ac c=false then (0,9,S) else f
def tick (S:KS) (d:Int):Int×KS:=if le S.now d=0 then (0,{ S with now:=lv S.now d }) else (le S.now d,S)
def queue (S:KS) (c:Int):Int×Int×KS:=(Cm.kT n S.wk c,Cm.kU n S.wk c,{ S with wk:=Cm.ZJ n S.wk c })
def call (S:KS) (c:Int):Int×Int×KS:=(Cm.kQ S.cl c,Cm.kR S.cl c,{ S with cl:=Cm.Ru S.cl c })
def alloc (S:KS) (c:Int):Int×Int×KS:=(Hm.SM 12 n S.oa S.ok c,Hm.SK 12 n S.oa S.ok c,{ S with oa:=Hm.Pw 12 n S.oa S.ok c,ok:=Hm.LS 12 n S.oa S.ok c })
def gN (S:KS) (c x:Int):Int×KS:=(Hm.NK 12 n S.oa S.ok c x,{ S with oa:=Hm.LU 12 n S.oa S.ok c x,ok:=Hm.JL 12 n S.oa S.ok c x })
def enter (S:KS) (c:Int):Int×KS:=(Em.Cy S.gs S.gl c,{ S with gl:=Em.ID S.gs S.gl c })
def left (S:KS) (c:Int):Int×KS:=(Em.JN S.gl c,{ S with gl:=Em.Jv S.gl c })
def Ss (d:Int):Int:=if d<0\/1073741824<d then 2 else 0
def KD (a b:Int):Int:=if 1<=a/\a<=b/\b<=100000 then 0 else 2
def A8 (S:KS) (e:Ev):Int×Int×KS:=
 if e.kind=1 then (0,3,S)
 else if e.kind=23\/e.kind=24 then no (Ck n S (e.kind==23) e.cpu)
 else if e.kind=25 then no (J8 S e.n)
 else if e.kind=26 then IU n S e.cpu (no (enter S e.cpu))
 else if e.kind=27 then no (left S e.cpu)
 else if e.kind=28 then (0,Ss e.n,S)
 else if e.kind=29 then (0,KD e.id e.n,S)
 else (0,2,S)
def Au (S:KS) (e:Ev):Int×Int×KS:=
 if e.kind=18 then (if e.cpu=-1 then queue n S (-1) else IU n S e.cpu (queue n S e.cpu))
 else if e.kind=19 then ((flush S e.id).1,(flush S e.id).2,S)
 else if e.kind=20 then IU n S e.cpu (call S e.cpu)
 else if e.kind=21 then IU n S e.cpu (alloc n S e.cpu)
 else if e.kind=22 then IU n S e.cpu (no (gN n S e.cpu e.id))
 else A8 n S e
def Ab (S:KS) (e:Ev):Int×Int×KS:=
 if e.kind=2 then no (tick S e.n)
 else if e.kind=10 then IU n S e.cpu (arm n S e.cpu e.n)
 else if e.kind=11 then no (cancel n S e.id)
 else if e.kind=12 then no (request n S e.id e.mask)
 else if e.kind=13 then no (free S e.id)
 else if e.kind=14 then no (FD n S e.id e.mask)
 else if e.kind=15 then no (J7 S e.id true)
 else if e.kind=16 then no (J7 S e.id false)
 else if e.kind=17 then no (raise S e.id)
 else Au n S e
def AF (S:KS) (e:Ev):Int×Int×KS:=
 if e.kind=3 then spawn n S e.id e.mask
 else if e.kind=4 then Nk S e.id λt=>no (exit n S e.id t)
 else if e.kind=5 then Nk S e.id λt=>no (yield n S e.id t)
 else if e.kind=6 then Nk S e.id λt=>sleep n S e.id t e.n
 else if e.kind=7 then Nk S e.id λt=>no (G8 n S e.id t)
 else if e.kind=8 then no (QI n S e.id e.mask)
 else if e.kind=9 then Nk S e.id λt=>(t.cpu,0,S)
 else if e.kind=30 then balance n S
 else Ab n S e
def ret (a b:Int):Rec:=⟨1,0,if b=0 then a else 0,0,b⟩
def KG (S:KS) (e:Ev):List Rec×KS:=
 if e.kind=1/\AJ n e.cpu=true then step n S e.cpu else ([ret (AF n S e).1 (AF n S e).2.1],(AF n S e).2.2)
def new:KS where
 on:=up n
 ac:=up n
 O:=λ_=>false
 X:=λ_=>Tm.zt
 q:=λ_=>[]
 now:=0
 t:=λ_=>[]
 i:=λ_=>Bm.zi
 r:=λ_=>-1
 wk:=List.replicate (n+1) []
 cl:=List.replicate n []
 oa:=List.replicate 12 0
 ok:=List.replicate n []
 ct:=List.replicate n 0
 R:=none
 P:=λ_=>false
 gs:=0
 gl:=List.replicate n 0
 sl:=0
 sh:=0
 z:=List.replicate n (true,false)
open Go.ChangeShapes Go.WideShapes Go.ChangeAt Go.RowKit
variable {X:Nat->Tm.Th} {F:Nat->List Nat} {x:Nat×List Value×TypeId} {G Z:List Nat} {c i j n:Nat} {L:List Int} {v:Value} {w:World} {id:Int}
structure KA where
 n:Nat
 k:Nat
 th:Nat
 rq:Nat
 tm:Nat
 iq:Nat
 rt:Nat
 wk:Nat
 cl:Nat
 ob:Nat
 ct:Nat
 dk:Nat
 gt:Nat
 st:Nat
 co:Nat
 mt:Nat
 gv:Nat
 gc:Nat
 gs:Nat->Nat
def kc (a:KA) (S:KS) (lim:Int):List Value:=
 [.int .u64 (S.on:Int),.int .u64 (S.ac:Int),.int .i64 lim,.pointer (some ⟨a.th+2,0,none⟩),.pointer (some ⟨a.rq+2,0,none⟩),.pointer (some ⟨a.tm,0,none⟩),.pointer (some ⟨a.iq,0,none⟩),.pointer (some ⟨a.rt,0,none⟩),.pointer (some ⟨a.wk+6,0,none⟩),.pointer (some ⟨a.cl+3,0,none⟩),.pointer (some ⟨a.ob,0,none⟩),.pointer (some ⟨a.ct,0,none⟩),.pointer (some ⟨a.dk,0,none⟩),.pointer (some ⟨a.gt,0,none⟩),.pointer (some ⟨a.st,0,none⟩),.pointer (some ⟨a.co,0,none⟩),.pointer (some ⟨a.mt,0,none⟩),.slice (some ⟨a.gv,0,none⟩) a.n a.gc]
def Fc (n:Nat) (X:Nat->Tm.Th):Prop:=∀ i,(X i).mask<18446744073709551616/\0<=(X i).cpu/\(X i).cpu<n/\0<=(X i).timer/\(X i).timer<=48
def lI (X:Nat->Bm.Iq):Prop:=∀ i,(X i).bs<18446744073709551616
def Part (a:KA) (S:KS) (m:Nat) (i:Nat) (w:World) (F:List Nat):Prop:=match i with
 | 0=>(∃ lim,AB w a.k (kc a S lim) 68)/\(S.on<18446744073709551616/\S.ac<18446744073709551616)/\F=[a.k]
 | 1=>Thr.TT w a.th a.n S.O S.X/\Fc a.n S.X/\F=[a.th,a.th+1,a.th+2]
 | 2=>Rqu.RR w a.rq a.n m S.q/\F=Rqu.rz a.rq a.n
 | 3=>Tim.TX w a.tm a.n S.now S.t F
 | 4=>Irq.IT w a.iq a.n S.i/\lI S.i/\F=[a.iq]
 | 5=>Rou.RT w a.rt a.n S.r/\F=[a.rt]
 | 6=>Wrk.GX w a.wk a.n S.wk/\F=Wrk.gz a.wk a.n
 | 7=>Wrk.CX w a.cl S.cl/\S.cl.length=a.n/\F=Wrk.cz a.cl a.n
 | 8=>∃ pb lb V,Sta.SH w a.ob pb lb a.n 12 S.oa V S.ok/\Hm.Kv 12 S.oa S.ok/\F=a.ob::lb::pb::Sta.bl V
 | 9=>∃ g,Spl.SL w a.ct g S.ct/\S.ct.length=a.n/\F=[a.ct,g]
 | 10=>Hot.PD w a.dk F S.R S.P m
 | 11=>∃ g,CJ.GT w a.gt g S.gs S.gl/\S.gl.length=a.n/\F=[a.gt,g]
 | 12=>Stp.ST w a.st S.sl S.sh/\F=[a.st]
 | 13=>∃ g Y,Cor.CT w a.co g Y/\Y.map (λx=>(x.p,x.i))=S.z/\S.z.length=a.n/\F=[a.co,g]
 | 14=>∃ g M,Met.PM w a.mt g a.n M/\Met.Mt.JQ a.n M ((m:Int)*2147483648)/\F=[a.mt,g]
 | 15=>∃ (V:List Value),AB w a.gv ((List.range a.n).map (λc=>.pointer (some ⟨a.gs c,0,none⟩))++V) 99/\(∀ c,c<a.n->∃ lo hi q p,Frq.PG w (a.gs c) lo hi q p/\Frq.JR lo hi)/\F=a.gv::(List.range a.n).map a.gs
 | _=>F=[]
def Part.AA {a:KA} {S:KS} {m i:Nat} {w w':World} {F Z:List Nat} (h:Part a S m i w F) (f:Fr w.heap.size Z w w') (hz:∀ g∈F,g∉Z) (lt:∀ g∈F,g<w.heap.size):Part a S m i w' F:=by
 match i,h with
 | 0,⟨⟨l,b⟩,c,e⟩=>subst e;exact ⟨⟨l,b.AA f b.lt (hz _ (by simp))⟩,c,rfl⟩
 | 1,⟨t,o,e⟩=>
  subst e
  exact ⟨t.AA f t.hi (λk h1 h2=>hz k (by simp;omega)),o,rfl⟩
 | 2,⟨t,e⟩=>
  subst e
  exact ⟨⟨t.rb.AA f t.rb.hi (λk h1 h2 _=>hz k ((Rqu.Ht _ _ _).2 ⟨h1,h2⟩)),t.mp.AA f t.mp.lt (hz _ ((Rqu.Ht _ _ _).2 (by omega))),t.al⟩,rfl⟩
 | 3,t=>exact Tim.TX.AA t f (ADW _) hz
 | 4,⟨t,o,e⟩=>subst e;exact ⟨t.AA f t.lt (hz _ (by simp)),o,rfl⟩
 | 5,⟨t,e⟩=>subst e;exact ⟨t.AA f t.lt (hz _ (by simp)),rfl⟩
 | 6,⟨t,e⟩=>subst e;exact ⟨t.AA f (ADW _) (λk h1 h2=>hz k (by unfold Wrk.gz;rw [AEt];omega)),rfl⟩
 | 7,⟨t,l,e⟩=>subst e;exact ⟨t.AA f (ADW _) (λk h1 h2=>hz k (by unfold Wrk.cz;rw [AEt];rw [l] at h2;omega)),l,rfl⟩
 | 8,⟨pb,lb,V,t,k,e⟩=>subst e;exact ⟨pb,lb,V,t.AA f (ADW _) (hz _ (by simp)) (hz _ (by simp)) (hz _ (by simp)) (λg hg=>hz g (by simp [hg])),k,rfl⟩
 | 9,⟨g,t,l,e⟩=>subst e;exact ⟨g,t.AA f ⟨t.sb.lt,t.sg.lt⟩ ⟨hz _ (by simp),hz _ (by simp)⟩,l,rfl⟩
 | 10,t=>exact Hot.PD.AA t f (λk hk=>⟨lt k hk,hz k hk⟩)
 | 11,⟨g,t,l,e⟩=>subst e;exact ⟨g,t.AA f ⟨t.sb.lt,t.sg.lt⟩ ⟨hz _ (by simp),hz _ (by simp)⟩,l,rfl⟩
 | 12,⟨t,e⟩=>subst e;exact ⟨t.AA f t.sb.lt (hz _ (by simp)),rfl⟩
 | 13,⟨g,Y,t,y,l,e⟩=>subst e;exact ⟨g,Y,t.AA f t.sb.lt t.gb.lt (hz _ (by simp)) (hz _ (by simp)),y,l,rfl⟩
 | 14,⟨g,M,t,o,e⟩=>subst e;exact ⟨g,M,Met.MT.AA t f (Met.MT.slt t) (Met.MT.Zx t) (hz _ (by simp)) (hz _ (by simp)),o,rfl⟩
 | 15,⟨V,b,t,e⟩=>
  subst e
  refine ⟨V,b.AA f b.lt (hz _ (by simp)),λc hc=>?_,rfl⟩
  obtain ⟨lo,hi,q,p,g,li⟩:=t c hc
  exact ⟨lo,hi,q,p,g.AA f g.sb.lt (hz _ (by simp;exact Or.inr ⟨c,hc,rfl⟩)),li⟩
 | _+16,h=>exact h
def AU (i:Nat) (S S':KS):Prop:=
 (i=0\/(S'.on=S.on/\S'.ac=S.ac))/\(i=1\/(S'.O=S.O/\S'.X=S.X))/\(i=2\/S'.q=S.q)/\(i=3\/(S'.now=S.now/\S'.t=S.t))/\(i=4\/S'.i=S.i)/\(i=5\/S'.r=S.r)/\(i=6\/S'.wk=S.wk)/\(i=7\/S'.cl=S.cl)/\(i=8\/(S'.oa=S.oa/\S'.ok=S.ok))/\(i=9\/S'.ct=S.ct)/\(i=10\/(S'.R=S.R/\S'.P=S.P))/\(i=11\/(S'.gs=S.gs/\S'.gl=S.gl))/\(i=12\/(S'.sl=S.sl/\S'.sh=S.sh))/\(i=13\/S'.z=S.z)
def AU.refl (i:Nat) (S:KS):AU i S S:=by simp [AU]
def Part.other {a:KA} {S S':KS} {m m':Nat} {F:List Nat} (e:AU i S S') (hm:m<=m') (hn:j≠i) (h:Part a S m j w F):Part a S' m' j w F:=by
 obtain ⟨e0,e1,e2,e3,e4,e5,e6,e7,e8,e9,e10,e11,e12,e13⟩:=e
 match j,h with
 | 0,h=>obtain ⟨x,y⟩:=e0.resolve_left (λq=>hn q.symm);simp only [Part] at h ⊢;unfold kc at h ⊢;rw [x,y];exact h
 | 1,h=>obtain ⟨x,y⟩:=e1.resolve_left (λq=>hn q.symm);simp only [Part] at h ⊢;rw [x,y];exact h
 | 2,h=>
  have x:=e2.resolve_left (λq=>hn q.symm)
  simp only [Part] at h ⊢
  rw [x]
  exact ⟨⟨h.1.rb,by obtain ⟨D,o,k⟩:=h.1.mp;exact ⟨D,o.mono hm,k⟩,h.1.al⟩,h.2⟩
 | 3,h=>obtain ⟨x,y⟩:=e3.resolve_left (λq=>hn q.symm);simp only [Part] at h ⊢;rw [x,y];exact h
 | 4,h=>have x:=e4.resolve_left (λq=>hn q.symm);simp only [Part] at h ⊢;rw [x];exact h
 | 5,h=>have x:=e5.resolve_left (λq=>hn q.symm);simp only [Part] at h ⊢;rw [x];exact h
 | 6,h=>have x:=e6.resolve_left (λq=>hn q.symm);simp only [Part] at h ⊢;rw [x];exact h
 | 7,h=>have x:=e7.resolve_left (λq=>hn q.symm);simp only [Part] at h ⊢;rw [x];exact h
 | 8,h=>obtain ⟨x,y⟩:=e8.resolve_left (λq=>hn q.symm);simp only [Part] at h ⊢;rw [x,y];exact h
 | 9,h=>have x:=e9.resolve_left (λq=>hn q.symm);simp only [Part] at h ⊢;rw [x];exact h
 | 10,h=>obtain ⟨x,y⟩:=e10.resolve_left (λq=>hn q.symm);simp only [Part] at h ⊢;rw [x,y];exact h.up hm
 | 11,h=>obtain ⟨x,y⟩:=e11.resolve_left (λq=>hn q.symm);simp only [Part] at h ⊢;rw [x,y];exact h
 | 12,h=>obtain ⟨x,y⟩:=e12.resolve_left (λq=>hn q.symm);simp only [Part] at h ⊢;rw [x,y];exact h
 | 13,h=>have x:=e13.resolve_left (λq=>hn q.symm);simp only [Part] at h ⊢;rw [x];exact h
 | 14,h=>
  obtain ⟨g,M,t,o,e⟩:=h
  exact ⟨g,M,t,λk hk=>⟨(o k hk).e0,(o k hk).e1,(o k hk).w0,(o k hk).r0,Int.le_trans (o k hk).tb (by omega)⟩,e⟩
 | 15,h=>exact h
 | _+16,h=>exact h
structure KW (w:World) (a:KA) (S:KS) (m:Nat) (F:Nat->List Nat):Prop where
 p:∀ i,i<16->Part a S m i w (F i)
 dis:∀ i j,i<16->j<16->i≠j->∀ g∈F i,g∉F j
 lt:∀ i,i<16->∀ g∈F i,g<w.heap.size
structure KX (B:Nat) (w0:World) (A:List (Nat×List Value×TypeId)) (a:KA) (m:Nat) (S:KS) (w:World):Prop where
 ex:∃ F,KW w a S m F/\(∀ i,i<16->∀ g∈F i,B<=g)/\∀ x∈A,∀ i,i<16->x.1∉F i
 bx:∀ x∈A,AB w x.1 x.2.1 x.2.2
 bel:Below B w0 w
 sz:B<=w.heap.size
 b1:1<=B
 tab:A9 w
 n1:1<=a.n
 n2:a.n<=64
section
variable {B:Nat} {w0:World} {A:List (Nat×List Value×TypeId)} {a:KA} {m m':Nat} {S S':KS} {w w':World}
def Df (h:A9 w) (hs:1<=w.heap.size) (f:Fr w.heap.size Z w w') (hz:0∉Z):A9 w':=λi hi=>by
 rw [f.cell (p:=⟨0,i,none⟩) hs hz]
 exact h i hi
def yJ (F:Nat->List Nat) (i:Nat) (G:List Nat):Nat->List Nat:=λj=>if j=i then G else F j
def Eg:yJ F i G i=G:=AHi rfl
def C8 (h:¬ j=i):yJ F i G j=F j:=AHh h
def KX.turn (h:KX B w0 A a m S w) (K:KW w a S m F) (hB:∀ i,i<16->∀ g∈F i,B<=g) (hA:∀ x∈A,∀ i,i<16->x.1∉F i) (i:Nat) (hi:i<16) (p:Part a S' m' i w' G) (f:Fr w.heap.size (F i) w w') (sub:∀ g∈G,g∈F i\/w.heap.size<=g) (lt:∀ g∈G,g<w'.heap.size) (e:AU i S S') (hm:m<=m'):KX B w0 A a m' S' w':=by
 have hs:=h.sz
 have h1:=h.b1
 refine ⟨⟨yJ F i G,⟨λj hj=>?_,λj k hj hk hn g hg=>?_,λj hj g hg=>?_⟩,λj hj g hg=>?_,λx hx j hj=>?_⟩,λx hx=>?_,?_,ADd hs f.size,h1,?_,h.n1,h.n2⟩
 ·by_cases q:j=i
  ·subst q;rw [Eg];exact p
  ·rw [C8 q];exact Part.other e hm q ((K.p j hj).AA f (K.dis j i hj hi q) (K.lt j hj))
 ·by_cases q:j=i
  ·subst q
   rw [Eg] at hg
   have q2:¬ k=j:=λe=>hn e.symm
   rw [C8 q2]
   rcases sub g hg with s | s
   ·exact K.dis j k hj hk hn g s
   ·exact λe=>by have:=K.lt k hk g e;omega
  ·rw [C8 q] at hg
   by_cases q2:k=i
   ·subst q2
    rw [Eg]
    intro e2
    rcases sub g e2 with s | s
    ·exact K.dis j k hj hk hn g hg s
    ·have:=K.lt j hj g hg;omega
   ·rw [C8 q2]
    exact K.dis j k hj hk hn g hg
 ·by_cases q:j=i
  ·subst q;rw [Eg] at hg;exact lt g hg
  ·rw [C8 q] at hg;exact AD7 (K.lt j hj g hg) f.size
 ·by_cases q:j=i
  ·subst q
   rw [Eg] at hg
   rcases sub g hg with s | s
   ·exact hB j hj g s
   ·omega
  ·rw [C8 q] at hg;exact hB j hj g hg
 ·by_cases q:j=i
  ·subst q
   rw [Eg]
   intro e2
   rcases sub _ e2 with s | s
   ·exact hA x hx j hj s
   ·have:=(h.bx x hx).lt;omega
  ·rw [C8 q];exact hA x hx j hj
 ·exact (h.bx x hx).AA f (h.bx x hx).lt (hA x hx i hi)
 ·exact h.bel.trans ((f.less hs).below λk hk=>hB i hi k hk)
 ·exact Df h.tab (by omega) f (λe=>by have:=hB i hi 0 e;omega)
def KX.below (h:KX B w0 A a m S w) (f:Below w.heap.size w w'):KX B w0 A a m S w':=by
 obtain ⟨F,K,hB,hA⟩:=h.ex
 have g:=Fr.AE f
 have hs:=h.sz
 have h1:=h.b1
 exact ⟨⟨F,⟨λi hi=>(K.p i hi).AA g (by simp) (K.lt i hi),K.dis,λi hi k hk=>AD7 (K.lt i hi k hk) f.size⟩,hB,hA⟩,λx hx=>(h.bx x hx).AA g (h.bx x hx).lt (by simp),h.bel.trans ((g.less hs).below (by simp)),ADd hs f.size,h1,Df h.tab (by omega) g (by simp),h.n1,h.n2⟩
def KX.sm (h:KX B w0 A a m S w) (e:Sm w' w):KX B w0 A a m S w':=h.below (e.below (Below.refl _ _))
def KX.drewN (h:KX B w0 A a m S w) (k:Nat):KX B w0 A a m S (w.drewN k):=h.below ⟨rfl,rfl,rfl,ADW _,λ_ _=>rfl⟩
def KX.drew (h:KX B w0 A a m S w):KX B w0 A a m S w.drew:=h.below ⟨rfl,rfl,rfl,ADW _,λ_ _=>rfl⟩
def KX.more (h:KX B w0 A a m S w) (hm:m<=m'):KX B w0 A a m' S w:=by
 obtain ⟨F,K,hB,hA⟩:=h.ex
 refine ⟨⟨F,⟨λi hi=>?_,K.dis,K.lt⟩,hB,hA⟩,h.bx,h.bel,h.sz,h.b1,h.tab,h.n1,h.n2⟩
 exact Part.other (i:=99) (AU.refl _ _) hm (by omega) (K.p i hi)
def KX.box (h:KX B w0 A a m S w) {b:Nat} {cs:List Value} {t:TypeId} (k:AB w' b cs t) (f:Below w.heap.size w w') (hb:w.heap.size<=b):KX B w0 ((b,cs,t)::A) a m S w':=by
 obtain ⟨F,K,hB,hA⟩:=h.ex
 obtain ⟨_,bx,bel,sz,b1,tab,n1,n2⟩:=h.below f
 have g:=Fr.AE f
 refine ⟨⟨F,⟨λi hi=>(K.p i hi).AA g (by simp) (K.lt i hi),K.dis,λi hi k hk=>AD7 (K.lt i hi k hk) f.size⟩,hB,λx hx i hi=>?_⟩,λx hx=>?_,bel,sz,b1,tab,n1,n2⟩
 ·rcases AD0.1 hx with rfl | hx
  ·exact λe=>by have:=K.lt i hi _ e;simp only at this;omega
  ·exact hA x hx i hi
 ·rcases AD0.1 hx with rfl | hx
  ·exact k
  ·exact bx x hx
def KX.sub {A2:List (Nat×List Value×TypeId)} (h:KX B w0 A a m S w) (k:∀ x∈A2,x∈A):KX B w0 A2 a m S w:=by
 obtain ⟨F,K,hB,hA⟩:=h.ex
 exact ⟨⟨F,K,hB,λx hx=>hA x (k x hx)⟩,λx hx=>h.bx x (k x hx),h.bel,h.sz,h.b1,h.tab,h.n1,h.n2⟩
def KX.drop (h:KX B w0 (x::A) a m S w):KX B w0 A a m S w:=h.sub λ_ hx=>ADV _ hx
def KX.AC (h:KX B w0 (x::A) a m S w):AB w x.1 x.2.1 x.2.2:=h.bx x (by simp)
def KX.kb (h:KX B w0 A a m S w):(∃ lim,AB w a.k (kc a S lim) 68)/\S.on<18446744073709551616/\S.ac<18446744073709551616:=by
 obtain ⟨F,K,_⟩:=h.ex
 obtain ⟨b,c,_⟩:=K.p 0 (by omega)
 exact ⟨b,c⟩
end
def _root_.Go.Proofs.YtdlhlfpigcgapaaGreatDoor.Fr.wide {B:Nat} {Z':List Nat} {w':World} (f:Fr B Z w w') (h:∀ k∈Z,k∈Z'):Fr B Z' w w':=f.mono (ADW _) λk _ hk hm=>hk (h k hm)
def wf (id:Int):Prop:=(Lit.int .i64 id).wf=true
def K3 (h1:-9223372036854775808<=id) (h2:id<=9223372036854775807):wf id:=by
 simp [wf,Lit.wf,IntKind.min,IntKind.max,IntKind.signed,IntKind.bits]
 omega
def Rw (X:List (Nat×List Value×TypeId)) (v:Value) (L:List Int):Prop:=
 (X=[]/\L=[]/\v=.slice none 0 0)\/∃ b cap cur,X=[(b,cur,3)]/\v=.slice (some ⟨b,0,none⟩) L.length cap/\∀ i,i<L.length->cur[i]?=some (.int .i64 (L.getD i 0))
def Rw.shape {X:List (Nat×List Value×TypeId)} (h:Rw X v L):∃ p cap,v=.slice p L.length cap:=by
 rcases h with ⟨_,rfl,rfl⟩ | ⟨b,cap,cur,_,rfl,_⟩
 ·exact ⟨none,0,rfl⟩
 ·exact ⟨_,cap,rfl⟩
section
variable {B:Nat} {w0:World} {A:List (Nat×List Value×TypeId)} {a:KA} {m m':Nat} {S S':KS} {w w':World}
def Rw.cell {X:List (Nat×List Value×TypeId)} {p:Option Addr} {n cap:Nat} {L:List Int} (h:Rw X (.slice p n cap) L) (k:KX B w0 (X++A) a m S w) {i:Nat} (hi:i<L.length):∃ b,p=some ⟨b,0,none⟩/\w.cell? ⟨b,i,none⟩=some (.int .i64 (L.getD i 0)):=by
 rcases h with ⟨_,rfl,_⟩ | ⟨b,c,cur,rfl,e,q⟩
 ·simp at hi
 ·simp only [Value.slice.injEq] at e
  refine ⟨b,e.1,?_⟩
  rw [(k.bx (b,cur,3) (by simp)).cell i]
  exact q i hi
def KX.row (h:KX B w0 A a m S w) (o:w'.ownsRow w.heap.size 3 1 v L.length (L.map (Value.int .i64))) (f:Below w.heap.size w w'):∃ X,KX B w0 (X++A) a m S w'/\Rw X v L:=by
 rcases o.2 with ⟨rfl,e⟩ | ⟨b,cap,cur,rfl,hb,hh,hn,hc,hz,ht⟩
 ·exact ⟨[],h.below f,Or.inl ⟨rfl,ADh e,rfl⟩⟩
 ·refine ⟨[(b,cur.toList,3)],h.box (show AB w' b cur.toList 3 from ?_) f hb,Or.inr ⟨b,cap,cur.toList,rfl,rfl,λi hi=>?_⟩⟩
  ·rw [AB,hh]
  ·have:=o.cellAt i (by omega)
   rw [Ae L i hi] at this
   rw [<- this]
   simp [World.cell?,hh]
def KX.AQ (h:KX B w0 A a m S w) (K:KW w a S m F) (hB:∀ i,i<16->∀ g∈F i,B<=g) (hA:∀ x∈A,∀ i,i<16->x.1∉F i) (i:Nat) (hi:i<16) (p:Part a S' m' i w' (F i)) (f:Fr w.heap.size Z w w') (hZ:∀ k∈Z,k∈F i) (e:AU i S S') (hm:m<=m'):KX B w0 A a m' S' w':=
 h.turn K hB hA i hi p (f.wide hZ) (λ_ hg=>Or.inl hg) (λg hg=>AD7 (K.lt i hi g hg) f.size) e hm
def IW (h:Fc n X) (i:Nat) {t:Tm.Th} (ht:t.mask<18446744073709551616/\0<=t.cpu/\t.cpu<n/\0<=t.timer/\t.timer<=48):Fc n (Tm.sx X i t):=λj=>by
 unfold Tm.sx
 split
 ·exact ht
 ·exact h j
def aW (h:Fc n X) (h1:1<=n) (O:Nat->Bool) (p:Int) {x:Nat} (hx:x<18446744073709551616):Fc n (Tm.RI n O X p x):=by
 unfold Tm.RI
 split
 ·cases Sl.ff 32 O with
  | none=>exact h
  | some i=>exact IW h i ⟨hx,AFJ _,by simp [Tm.nw];omega,AFJ _,by simp [Tm.nw]⟩
 ·exact h
def gP (h:Fc n X) (h1:1<=n) (O:Nat->Bool) (id:Int):Fc n (Tm.PJ O X id):=by
 unfold Tm.PJ
 split
 ·exact IW h _ ⟨by simp [Tm.zt],by simp [Tm.zt],by simp [Tm.zt];omega,by simp [Tm.zt],by simp [Tm.zt]⟩
 ·exact h
def aY (h:Fc n X) (O:Nat->Bool) (id c:Int) (f:Bool):Fc n (Tm.GA n O X id c f):=by
 unfold Tm.GA
 split
 ·rename_i q
  have:=h (id.toNat-1)
  exact IW h _ ⟨this.1,q.2.1,q.2.2,this.2.2.2⟩
 ·exact h
def aZ (h:Fc n X) (O:Nat->Bool) (id:Int) {x:Int} (h0:0<=x) (h1:x<=48):Fc n (Tm.Jb O X id x):=by
 unfold Tm.Jb
 split
 ·have:=h (id.toNat-1)
  exact IW h _ ⟨this.1,this.2.1,this.2.2.1,h0,h1⟩
 ·exact h
def gQ (h:Fc n X) (O:Nat->Bool) (id:Int):Fc n (Tm.MX O X id):=by
 unfold Tm.MX
 split
 ·have:=h (id.toNat-1)
  exact IW h _ ⟨this.1,this.2.1,this.2.2.1,AFJ _,by simp⟩
 ·exact h
def qG (h:Fc n X) (O:Nat->Bool) (id:Int) {x:Nat} (hx:x<18446744073709551616):Fc n (Tm.LC n O X id x):=by
 unfold Tm.LC
 split
 ·have:=h (id.toNat-1)
  exact IW h _ ⟨hx,this.2⟩
 ·exact h
def Eh {X:Nat->Bm.Iq} (h:lI X) (e k:Int) {t:Bm.Iq} (ht:t.bs<18446744073709551616):lI (Bm.A7 e X k t):=λj=>by
 unfold Bm.A7 Bm.sx
 split
 ·simp only
  split
  ·exact ht
  ·exact h j
 ·exact h j
def KX.okx (h:KX B w0 A a m S w):Fc a.n S.X:=by
 obtain ⟨F,K,_⟩:=h.ex
 obtain ⟨_,o,_⟩:=K.p 1 (by omega)
 exact o
def KX.oki (h:KX B w0 A a m S w):lI S.i:=by
 obtain ⟨F,K,_⟩:=h.ex
 obtain ⟨_,o,_⟩:=K.p 4 (by omega)
 exact o
def KH (h:KX B w0 A a m S w) (id:Int):(Ao S id).mask<18446744073709551616/\0<=(Ao S id).cpu/\(Ao S id).cpu<a.n/\0<=(Ao S id).timer/\(Ao S id).timer<=48:=by
 unfold Ao Tm.Cc
 have:=h.n1
 split
 ·exact h.okx _
 ·exact ⟨by simp [Tm.zt],by simp [Tm.zt],by simp [Tm.zt];omega,by simp [Tm.zt],by simp [Tm.zt]⟩
def gR (h:KX B w0 A a m S w) (p:Int) (x:Nat) (hx:x<18446744073709551616):
 Calls prog 134 #[.pointer (some ⟨a.th+2,0,none⟩),.int .i64 (p),.int .u64 (x:Int)] w λe w'=>e=.returned (.tuple #[.int .i64 (Tm.Gl a.n S.O p x),.int .i64 (Tm.LB a.n S.O p x)])/\KX B w0 A a (m) (QH a.n S p x) w':=by
 obtain ⟨F,K,hB,hA⟩:=h.ex
 obtain ⟨t,o,e0⟩:=K.p 1 (by omega)
 refine (Thr.Ti p x w hx t h.tab).mono ?_
 rintro e w' ⟨rfl,t2,f⟩
 refine ⟨rfl,h.AQ K hB hA 1 (by omega) ?_ f ?_ (by simp [AU,QH]) (by omega)⟩
 ·exact ⟨t2,aW o h.n1 _ _ hx,e0⟩
 ·intro k hk;rw [e0];simpa using hk
def Gd (h:KX B w0 A a m S w) (id:Int):
 Calls prog 138 #[.pointer (some ⟨a.th+2,0,none⟩),.int .i64 (id)] w λe w'=>e=.returned (.tuple #[.agg #[.int .i64 (Ao S id).prio,.int .u64 ((Ao S id).mask:Int),.int .i64 (Ao S id).cpu,.bool (Ao S id).forced,.bool (Ao S id).sleeps,.int .i64 (Ao S id).timer],.int .i64 (ER S id)])/\KX B w0 A a m S w':=by
 obtain ⟨F,K,hB,hA⟩:=h.ex
 obtain ⟨t,o,e0⟩:=K.p 1 (by omega)
 refine (Thr.YG id w t).mono ?_
 rintro e w' ⟨rfl,q⟩
 exact ⟨rfl,h.below q⟩
def gS (h:KX B w0 A a m S w) (id c:Int) (f:Bool):
 Calls prog 216 #[.pointer (some ⟨a.th+2,0,none⟩),.int .i64 (id),.int .i64 (c),.bool f] w λe w'=>e=.returned (.int .i64 (Tm.Dk a.n S.O id c))/\KX B w0 A a (m) ({ S with X:=Tm.GA a.n S.O S.X id c f }) w':=by
 obtain ⟨F,K,hB,hA⟩:=h.ex
 obtain ⟨t,o,e0⟩:=K.p 1 (by omega)
 refine (Thr.Tj id c f w t).mono ?_
 rintro e w' ⟨rfl,t2,f⟩
 refine ⟨rfl,h.AQ K hB hA 1 (by omega) ?_ f ?_ (by simp [AU]) (by omega)⟩
 ·exact ⟨t2,aY o _ _ _ _,e0⟩
 ·intro k hk;rw [e0];simpa using hk
def VX (h:KX B w0 A a m S w) (id:Int):
 Calls prog 141 #[.pointer (some ⟨a.th+2,0,none⟩),.int .i64 (id)] w λe w'=>e=.returned (.int .i64 (Sl.gE 32 S.O id))/\KX B w0 A a (m) (lG S id) w':=by
 obtain ⟨F,K,hB,hA⟩:=h.ex
 obtain ⟨t,o,e0⟩:=K.p 1 (by omega)
 refine (Thr.V5 id w t).mono ?_
 rintro e w' ⟨rfl,t2,f⟩
 refine ⟨rfl,h.AQ K hB hA 1 (by omega) ?_ f ?_ (by simp [AU,lG]) (by omega)⟩
 ·exact ⟨t2,gP o h.n1 _ _,e0⟩
 ·intro k hk;rw [e0];simpa using hk
def Su (h:KX B w0 A a m S w) (id x:Int) (h0:0<=x) (h1:x<=48):
 Calls prog 145 #[.pointer (some ⟨a.th+2,0,none⟩),.int .i64 (id),.int .i64 (x)] w λe w'=>e=.returned (.int .i64 (Tm.MW S.O S.X id))/\KX B w0 A a (m) ({ S with X:=Tm.Jb S.O S.X id x }) w':=by
 obtain ⟨F,K,hB,hA⟩:=h.ex
 obtain ⟨t,o,e0⟩:=K.p 1 (by omega)
 refine (Thr.Tk id x w t).mono ?_
 rintro e w' ⟨rfl,t2,f⟩
 refine ⟨rfl,h.AQ K hB hA 1 (by omega) ?_ f ?_ (by simp [AU]) (by omega)⟩
 ·exact ⟨t2,aZ o _ _ h0 h1,e0⟩
 ·intro k hk;rw [e0];simpa using hk
def qH (h:KX B w0 A a m S w) (id:Int):
 Calls prog 209 #[.pointer (some ⟨a.th+2,0,none⟩),.int .i64 (id)] w λe w'=>e=.returned (.tuple #[.int .i64 (Tm.EK S.O S.X id),.int .i64 (Tm.Ax S.O S.X id)])/\KX B w0 A a (m) (Sn S id) w':=by
 obtain ⟨F,K,hB,hA⟩:=h.ex
 obtain ⟨t,o,e0⟩:=K.p 1 (by omega)
 refine (Thr.V6 id w t).mono ?_
 rintro e w' ⟨rfl,t2,f⟩
 refine ⟨rfl,h.AQ K hB hA 1 (by omega) ?_ f ?_ (by simp [AU,Sn]) (by omega)⟩
 ·exact ⟨t2,gQ o _ _,e0⟩
 ·intro k hk;rw [e0];simpa using hk
def yK (h:KX B w0 A a m S w) (id:Int) (x:Nat) (hx:x<18446744073709551616):
 Calls prog 148 #[.pointer (some ⟨a.th+2,0,none⟩),.int .i64 (id),.int .u64 (x:Int)] w λe w'=>e=.returned (.int .i64 (Tm.B8 a.n S.O id x))/\KX B w0 A a (m) (So a.n S id x) w':=by
 obtain ⟨F,K,hB,hA⟩:=h.ex
 obtain ⟨t,o,e0⟩:=K.p 1 (by omega)
 refine (Thr.YI id x w hx t).mono ?_
 rintro e w' ⟨rfl,t2,f⟩
 refine ⟨rfl,h.AQ K hB hA 1 (by omega) ?_ f ?_ (by simp [AU,So]) (by omega)⟩
 ·exact ⟨t2,qG o _ _ hx,e0⟩
 ·intro k hk;rw [e0];simpa using hk
def VY (h:KX B w0 A a m S w):
 Calls prog 253 #[.pointer (some ⟨a.th+2,0,none⟩)] w λe w'=>∃ v X,e=.returned v/\KX B w0 (X++A) a m S w'/\Rw X v (Sl.li 32 S.O):=by
 obtain ⟨F,K,hB,hA⟩:=h.ex
 obtain ⟨t,o,e0⟩:=K.p 1 (by omega)
 refine (Thr.V4 w t h.tab (AD7 h.b1 h.sz)).mono ?_
 rintro e w' ⟨v,rfl,q⟩
 obtain ⟨X,k,r⟩:=h.row q.own q.bel
 exact ⟨v,X,rfl,k,r⟩
def yL (h:KX B w0 A a m S w) (c p id:Int) (hw:wf id) (hm:m<=1000000):
 Calls prog 217 #[.pointer (some ⟨a.rq+2,0,none⟩),.int .i64 (c),.int .i64 (p),.int .i64 (id)] w λe w'=>e=.returned (.int .i64 (Rqu.PV a.n S.q c p id))/\KX B w0 A a (m+1) ({ S with q:=Rqu.Hu a.n S.q c p id }) w':=by
 obtain ⟨F,K,hB,hA⟩:=h.ex
 obtain ⟨t,e0⟩:=K.p 2 (by omega)
 refine (Rqu.nB c p id hw hm t).mono ?_
 rintro e w' ⟨rfl,t2,f⟩
 refine ⟨rfl,h.AQ K hB hA 2 (by omega) ?_ f ?_ (by simp [AU]) (by omega)⟩
 ·exact ⟨t2,e0⟩
 ·intro k hk;rw [e0];simpa using hk
def IX (h:KX B w0 A a m S w) (id:Int) (hw:wf id):
 Calls prog 140 #[.pointer (some ⟨a.rq+2,0,none⟩),.int .i64 (id)] w λe w'=>e=.returned (.int .i64 (Rqu.D7 a.n S.q id))/\KX B w0 A a (m) (JT a.n S id) w':=by
 obtain ⟨F,K,hB,hA⟩:=h.ex
 obtain ⟨t,e0⟩:=K.p 2 (by omega)
 refine (Rqu.V9 id hw t).mono ?_
 rintro e w' ⟨rfl,t2,f⟩
 refine ⟨rfl,h.AQ K hB hA 2 (by omega) ?_ f ?_ (by simp [AU,JT]) (by omega)⟩
 ·exact ⟨t2,e0⟩
 ·intro k hk;rw [e0];simpa using hk
def qI (h:KX B w0 A a m S w) (id:Int) (hw:wf id):
 Calls prog 142 #[.pointer (some ⟨a.rq+2,0,none⟩),.int .i64 (id)] w λe w'=>e=.returned (.int .i64 (Rqu.D7 a.n S.q id))/\KX B w0 A a (m) ({ S with q:=Rqu.Mj a.n S.q id }) w':=by
 obtain ⟨F,K,hB,hA⟩:=h.ex
 obtain ⟨t,e0⟩:=K.p 2 (by omega)
 refine (Rqu.V8 id hw t).mono ?_
 rintro e w' ⟨rfl,t2,f⟩
 refine ⟨rfl,h.AQ K hB hA 2 (by omega) ?_ f ?_ (by simp [AU]) (by omega)⟩
 ·exact ⟨t2,e0⟩
 ·intro k hk;rw [e0];simpa using hk
def qJ (h:KX B w0 A a m S w) (c:Int):
 Calls prog 133 #[.pointer (some ⟨a.rq+2,0,none⟩),.int .i64 (c)] w λe w'=>e=.returned (.tuple #[.int .i64 (Rqu.Jg a.n S.q c),.int .i64 (Rqu.Ya a.n S.q c)])/\KX B w0 A a (m) ({ S with q:=Rqu.LH a.n S.q c }) w':=by
 obtain ⟨F,K,hB,hA⟩:=h.ex
 obtain ⟨t,e0⟩:=K.p 2 (by omega)
 refine (Rqu.dN c t).mono ?_
 rintro e w' ⟨rfl,t2,f⟩
 refine ⟨rfl,h.AQ K hB hA 2 (by omega) ?_ f ?_ (by simp [AU]) (by omega)⟩
 ·exact ⟨t2,e0⟩
 ·intro k hk;rw [e0];simpa using hk
def K4 (h:KX B w0 A a m S w) (c:Int):
 Calls prog 50 #[.pointer (some ⟨a.rq+2,0,none⟩),.int .i64 (c)] w λe w'=>e=.returned (.int .i64 (Rqu.Bs a.n S.q c))/\KX B w0 A a m S w':=by
 obtain ⟨F,K,hB,hA⟩:=h.ex
 obtain ⟨t,e0⟩:=K.p 2 (by omega)
 refine (Rqu.Lx c t).mono ?_
 rintro e w' ⟨rfl,rfl⟩
 exact ⟨rfl,h⟩
def XG (h:KX B w0 A a m S w):
 Calls prog 150 #[.pointer (some ⟨a.rq+2,0,none⟩),.int .u64 (S.ac:Int)] w λe w'=>e=.returned (.tuple #[.int .i64 (Db a.n S),.int .i64 (Rqb.E1 (Rqb.bc S.ac a.n))])/\KX B w0 A a m S w':=by
 obtain ⟨F,K,hB,hA⟩:=h.ex
 obtain ⟨t,e0⟩:=K.p 2 (by omega)
 refine (Rqb.Tl S.ac h.kb.2.2 h.tab t).mono ?_
 rintro e w' ⟨rfl,q⟩
 exact ⟨rfl,h.below q⟩
def bA (h:KX B w0 A a m S w):
 Calls prog 151 #[.pointer (some ⟨a.rq+2,0,none⟩),.int .u64 (S.ac:Int)] w λe w'=>e=.returned (.tuple #[.int .i64 (QJ a.n S),.int .i64 (Rqb.E1 (Rqb.bc S.ac a.n))])/\KX B w0 A a m S w':=by
 obtain ⟨F,K,hB,hA⟩:=h.ex
 obtain ⟨t,e0⟩:=K.p 2 (by omega)
 refine (Rqb.WB S.ac h.kb.2.2 h.tab t).mono ?_
 rintro e w' ⟨rfl,q⟩
 exact ⟨rfl,h.below q⟩
def VZ (h:KX B w0 A a m S w) (c:Int):
 Calls prog 152 #[.pointer (some ⟨a.rq+2,0,none⟩),.int .i64 (c)] w λe w'=>∃ v X,e=.returned v/\KX B w0 (X++A) a m S w'/\Rw X v (Rqu.GD a.n S.q c):=by
 obtain ⟨F,K,hB,hA⟩:=h.ex
 obtain ⟨t,e0⟩:=K.p 2 (by omega)
 refine (Rqu.WA c t).mono ?_
 rintro e w' ⟨v,rfl,q,f⟩
 obtain ⟨X,k,r⟩:=h.row q f
 exact ⟨v,X,rfl,k,r⟩
def KI (h:KX B w0 A a m S w) (id:Int) (hw:wf id):
 Calls prog 139 #[.pointer (some ⟨a.tm,0,none⟩),.int .i64 (id)] w λe w'=>e=.returned (.int .i64 (Zm.kK a.n S.t id))/\KX B w0 A a (m) (VV a.n S id) w':=by
 obtain ⟨F,K,hB,hA⟩:=h.ex
 have t:=K.p 3 (by omega)
 simp only [Part] at t
 refine (Tim.WO id hw t).mono ?_
 rintro e w' ⟨rfl,F',t2,mv⟩
 exact ⟨rfl,h.turn K hB hA 3 (by omega) (G:=F') t2 mv.1 mv.2 (λg hg=>Tim.TX.lt t2 hg) (by simp [AU,VV]) (by omega)⟩
def qK (h:KX B w0 A a m S w) (c:Int):
 Calls prog 193 #[.pointer (some ⟨a.tm,0,none⟩),.int .i64 (c)] w λe w'=>e=.returned (.tuple #[.int .i64 (Tim.Pi a.n S.now S.t c),.int .i64 (Tim.kN a.n S.now S.t c)])/\KX B w0 A a (m) (Ha a.n S c) w':=by
 obtain ⟨F,K,hB,hA⟩:=h.ex
 have t:=K.p 3 (by omega)
 simp only [Part] at t
 refine (Tim.eQ c t).mono ?_
 rintro e w' ⟨rfl,F',t2,mv⟩
 exact ⟨rfl,h.turn K hB hA 3 (by omega) (G:=F') t2 mv.1 mv.2 (λg hg=>Tim.TX.lt t2 hg) (by simp [AU,Ha]) (by omega)⟩
def yM (h:KX B w0 A a m S w) (c d:Int):
 Calls prog 208 #[.pointer (some ⟨a.tm,0,none⟩),.int .i64 (c),.int .i64 (d)] w λe w'=>e=.returned (.tuple #[.int .i64 (Tim.Yy a.n S.t c d),.int .i64 (Tim.kL a.n S.t c d)])/\KX B w0 A a (m) ({ S with t:=Tim.Pf a.n S.t c d }) w':=by
 obtain ⟨F,K,hB,hA⟩:=h.ex
 have t:=K.p 3 (by omega)
 simp only [Part] at t
 refine (Tim.oC c d t h.tab).mono ?_
 rintro e w' ⟨rfl,F',t2,mv⟩
 exact ⟨rfl,h.turn K hB hA 3 (by omega) (G:=F') t2 mv.1 mv.2 (λg hg=>Tim.TX.lt t2 hg) (by simp [AU]) (by omega)⟩
def qL (h:KX B w0 A a m S w) (c d:Int):
 Calls prog 243 #[.pointer (some ⟨a.tm,0,none⟩),.int .i64 (c),.int .i64 (d)] w λe w'=>e=.returned (.tuple #[.int .i64 (Tim.Rl a.n S.t c d),.int .i64 (Tim.GQ a.n S.t c d)])/\KX B w0 A a (m) ({ S with t:=Tim.DV a.n S.t c d }) w':=by
 obtain ⟨F,K,hB,hA⟩:=h.ex
 have t:=K.p 3 (by omega)
 simp only [Part] at t
 refine (Tim.eP c d t).mono ?_
 rintro e w' ⟨rfl,F',t2,mv⟩
 exact ⟨rfl,h.turn K hB hA 3 (by omega) (G:=F') t2 mv.1 mv.2 (λg hg=>Tim.TX.lt t2 hg) (by simp [AU]) (by omega)⟩
def ABx (h:KX B w0 A a m S w) (d:Int):
 Calls prog 219 #[.pointer (some ⟨a.tm,0,none⟩),.int .i64 (d)] w λe w'=>e=.returned (.int .i64 (Tim.M6 S.now d))/\KX B w0 A a (m) ({ S with now:=Tim.M7 S.now d }) w':=by
 obtain ⟨F,K,hB,hA⟩:=h.ex
 have t:=K.p 3 (by omega)
 simp only [Part] at t
 refine (Tim.oF d t).mono ?_
 rintro e w' ⟨rfl,F',t2,mv⟩
 exact ⟨rfl,h.turn K hB hA 3 (by omega) (G:=F') t2 mv.1 mv.2 (λg hg=>Tim.TX.lt t2 hg) (by simp [AU]) (by omega)⟩
def yN (h:KX B w0 A a m S w):
 Calls prog 115 #[.pointer (some ⟨a.tm,0,none⟩)] w λe w'=>e=.returned (.int .i64 (S.now))/\KX B w0 A a m S w':=by
 obtain ⟨F,K,hB,hA⟩:=h.ex
 have t:=K.p 3 (by omega)
 simp only [Part] at t
 refine (Tim.Rk t).mono ?_
 rintro e w' ⟨rfl,rfl⟩
 exact ⟨rfl,h⟩
def qM (h:KX B w0 A a m S w) (c:Int):
 Calls prog 116 #[.pointer (some ⟨a.tm,0,none⟩),.int .i64 (c)] w λe w'=>e=.returned (.tuple #[.int .i64 (Tim.Ph a.n S.t c),.int .i64 (Tim.kM a.n S.t c)])/\KX B w0 A a m S w':=by
 obtain ⟨F,K,hB,hA⟩:=h.ex
 have t:=K.p 3 (by omega)
 simp only [Part] at t
 refine (Tim.Y3 c t).mono ?_
 rintro e w' ⟨rfl,rfl⟩
 exact ⟨rfl,h⟩
def Sv (h:KX B w0 A a m S w) (c:Int):
 Calls prog 112 #[.pointer (some ⟨a.tm,0,none⟩),.int .i64 (c)] w λe w'=>e=.returned (.bool (Tim.U0 a.n S.now S.t c))/\KX B w0 A a m S w':=by
 obtain ⟨F,K,hB,hA⟩:=h.ex
 have t:=K.p 3 (by omega)
 simp only [Part] at t
 refine (Tim.Ix c t).mono ?_
 rintro e w' ⟨rfl,rfl⟩
 exact ⟨rfl,h⟩
def XH (h:KX B w0 A a m S w) (k:Int) (x:Nat) (hx:x<18446744073709551616):
 Calls prog 221 #[.pointer (some ⟨a.iq,0,none⟩),.int .i64 (k),.int .u64 (x:Int)] w λe w'=>e=.returned (.int .i64 (Bm.EA a.n S.i k x))/\KX B w0 A a (m) (Sq a.n S k x) w':=by
 obtain ⟨F,K,hB,hA⟩:=h.ex
 obtain ⟨t,o,e0⟩:=K.p 4 (by omega)
 refine (Irq.QR k x w hx t).mono ?_
 rintro e w' ⟨rfl,t2,f⟩
 refine ⟨rfl,h.AQ K hB hA 4 (by omega) ?_ f ?_ (by simp [AU,Sq]) (by omega)⟩
 ·exact ⟨t2,Eh o _ _ hx,e0⟩
 ·intro k hk;rw [e0];simpa using hk
def qN (h:KX B w0 A a m S w) (k:Int):
 Calls prog 223 #[.pointer (some ⟨a.iq,0,none⟩),.int .i64 (k)] w λe w'=>e=.returned (.int .i64 (Bm.Aa S.i k))/\KX B w0 A a (m) ({ S with i:=Bm.A7 (Bm.Aa S.i k) S.i k Bm.zi }) w':=by
 obtain ⟨F,K,hB,hA⟩:=h.ex
 obtain ⟨t,o,e0⟩:=K.p 4 (by omega)
 refine (Irq.WU k w t).mono ?_
 rintro e w' ⟨rfl,t2,f⟩
 refine ⟨rfl,h.AQ K hB hA 4 (by omega) ?_ f ?_ (by simp [AU]) (by omega)⟩
 ·exact ⟨t2,Eh o _ _ (by simp [Bm.zi]),e0⟩
 ·intro k hk;rw [e0];simpa using hk
def gT (h:KX B w0 A a m S w) (k:Int):
 Calls prog 171 #[.pointer (some ⟨a.iq,0,none⟩),.int .i64 (k)] w λe w'=>e=.returned (.int .i64 (Bm.Aa S.i k))/\KX B w0 A a (m) ((raise S k).2) w':=by
 obtain ⟨F,K,hB,hA⟩:=h.ex
 obtain ⟨t,o,e0⟩:=K.p 4 (by omega)
 refine (Irq.Tr k w t).mono ?_
 rintro e w' ⟨rfl,t2,f⟩
 refine ⟨rfl,h.AQ K hB hA 4 (by omega) ?_ f ?_ (by simp [AU,raise]) (by omega)⟩
 ·exact ⟨t2,Eh o _ _ (o _),e0⟩
 ·intro k hk;rw [e0];simpa using hk
def yO (h:KX B w0 A a m S w) (k:Int) (x:Nat) (hx:x<18446744073709551616):
 Calls prog 225 #[.pointer (some ⟨a.iq,0,none⟩),.int .i64 (k),.int .u64 (x:Int)] w λe w'=>e=.returned (.int .i64 (Bm.B8 a.n S.i k x))/\KX B w0 A a (m) (VW a.n S k x) w':=by
 obtain ⟨F,K,hB,hA⟩:=h.ex
 obtain ⟨t,o,e0⟩:=K.p 4 (by omega)
 refine (Irq.Y8 k x w hx t).mono ?_
 rintro e w' ⟨rfl,t2,f⟩
 refine ⟨rfl,h.AQ K hB hA 4 (by omega) ?_ f ?_ (by simp [AU,VW]) (by omega)⟩
 ·exact ⟨t2,Eh o _ _ hx,e0⟩
 ·intro k hk;rw [e0];simpa using hk
def qO (h:KX B w0 A a m S w) (k:Int):
 Calls prog 167 #[.pointer (some ⟨a.iq,0,none⟩),.int .i64 (k)] w λe w'=>e=.returned (.int .i64 (Bm.EC S.i k true))/\KX B w0 A a (m) ((J7 S k true).2) w':=by
 obtain ⟨F,K,hB,hA⟩:=h.ex
 obtain ⟨t,o,e0⟩:=K.p 4 (by omega)
 refine (Irq.WV k w t).mono ?_
 rintro e w' ⟨rfl,t2,f⟩
 refine ⟨rfl,h.AQ K hB hA 4 (by omega) ?_ f ?_ (by simp [AU,J7]) (by omega)⟩
 ·exact ⟨t2,Eh o _ _ (o _),e0⟩
 ·intro k hk;rw [e0];simpa using hk
def bB (h:KX B w0 A a m S w) (k:Int):
 Calls prog 169 #[.pointer (some ⟨a.iq,0,none⟩),.int .i64 (k)] w λe w'=>e=.returned (.int .i64 (Bm.EC S.i k false))/\KX B w0 A a (m) ((J7 S k false).2) w':=by
 obtain ⟨F,K,hB,hA⟩:=h.ex
 obtain ⟨t,o,e0⟩:=K.p 4 (by omega)
 refine (Irq.Ro k w t).mono ?_
 rintro e w' ⟨rfl,t2,f⟩
 refine ⟨rfl,h.AQ K hB hA 4 (by omega) ?_ f ?_ (by simp [AU,J7]) (by omega)⟩
 ·exact ⟨t2,Eh o _ _ (o _),e0⟩
 ·intro k hk;rw [e0];simpa using hk
def gU (h:KX B w0 A a m S w) (k:Int):
 Calls prog 130 #[.pointer (some ⟨a.iq,0,none⟩),.int .i64 (k)] w λe w'=>e=.returned (.int .i64 (Bm.Jn S.i k))/\KX B w0 A a (m) ({ S with i:=Bm.A7 (Bm.Jn S.i k) S.i k { S.i k.toNat with pd:=false } }) w':=by
 obtain ⟨F,K,hB,hA⟩:=h.ex
 obtain ⟨t,o,e0⟩:=K.p 4 (by omega)
 refine (Irq.Ts k w t).mono ?_
 rintro e w' ⟨rfl,t2,f⟩
 refine ⟨rfl,h.AQ K hB hA 4 (by omega) ?_ f ?_ (by simp [AU]) (by omega)⟩
 ·exact ⟨t2,Eh o _ _ (o _),e0⟩
 ·intro k hk;rw [e0];simpa using hk
def bC (h:KX B w0 A a m S w) (k:Int):
 Calls prog 278 #[.pointer (some ⟨a.iq,0,none⟩),.int .i64 (k)] w λe w'=>e=.returned (.tuple #[.agg #[.bool (Bm.Cc S.i k).wt,.bool (Bm.Cc S.i k).ms,.bool (Bm.Cc S.i k).pd,.int .u64 ((Bm.Cc S.i k).bs:Int)],.int .i64 (Bm.FV k)])/\KX B w0 A a m S w':=by
 obtain ⟨F,K,hB,hA⟩:=h.ex
 obtain ⟨t,o,e0⟩:=K.p 4 (by omega)
 refine (Irq.Y9 k w t).mono ?_
 rintro e w' ⟨rfl,q⟩
 exact ⟨rfl,h.below q⟩
def gV (h:KX B w0 A a m S w) (k:Int):
 Calls prog 174 #[.pointer (some ⟨a.iq,0,none⟩),.int .i64 (k)] w λe w'=>e=.returned (.bool (Bm.GR S.i k))/\KX B w0 A a m S w':=by
 obtain ⟨F,K,hB,hA⟩:=h.ex
 obtain ⟨t,o,e0⟩:=K.p 4 (by omega)
 refine (Irq.Tq k w t).mono ?_
 rintro e w' ⟨rfl,q⟩
 exact ⟨rfl,h.below q⟩
def qP (h:KX B w0 A a m S w):
 Calls prog 301 #[.pointer (some ⟨a.iq,0,none⟩)] w λe w'=>∃ v X,e=.returned v/\KX B w0 (X++A) a m S w'/\Rw X v (FJ S):=by
 obtain ⟨F,K,hB,hA⟩:=h.ex
 obtain ⟨t,o,e0⟩:=K.p 4 (by omega)
 refine (Irq.WX w t).mono ?_
 rintro e w' ⟨v,rfl,q⟩
 obtain ⟨X,k,r⟩:=h.row q.own q.bel
 exact ⟨v,X,rfl,k,r⟩
def ND (h:KX B w0 A a m S w) (k c:Int):
 Calls prog 279 #[.pointer (some ⟨a.rt,0,none⟩),.int .i64 (k),.int .i64 (c)] w λe w'=>e=.returned (.int .i64 (Nm.Gu a.n k c))/\KX B w0 A a (m) ({ S with r:=Nm.A7 (Nm.Gu a.n k c) S.r k c }) w':=by
 obtain ⟨F,K,hB,hA⟩:=h.ex
 obtain ⟨t,e0⟩:=K.p 5 (by omega)
 refine (Rou.ZC k c w t).mono ?_
 rintro e w' ⟨rfl,t2,f⟩
 refine ⟨rfl,h.AQ K hB hA 5 (by omega) ?_ f ?_ (by simp [AU]) (by omega)⟩
 ·exact ⟨t2,e0⟩
 ·intro k hk;rw [e0];simpa using hk
def yP (h:KX B w0 A a m S w) (k:Int):
 Calls prog 224 #[.pointer (some ⟨a.rt,0,none⟩),.int .i64 (k)] w λe w'=>e=.returned (.int .i64 (Nm.H8 S.r k))/\KX B w0 A a (m) ({ S with r:=Nm.A7 (Nm.H8 S.r k) S.r k (-1) }) w':=by
 obtain ⟨F,K,hB,hA⟩:=h.ex
 obtain ⟨t,e0⟩:=K.p 5 (by omega)
 refine (Rou.ZD k w t).mono ?_
 rintro e w' ⟨rfl,t2,f⟩
 refine ⟨rfl,h.AQ K hB hA 5 (by omega) ?_ f ?_ (by simp [AU]) (by omega)⟩
 ·exact ⟨t2,e0⟩
 ·intro k hk;rw [e0];simpa using hk
def ABy (h:KX B w0 A a m S w) (k:Int):
 Calls prog 281 #[.pointer (some ⟨a.rt,0,none⟩),.int .i64 (k)] w λe w'=>e=.returned (.tuple #[.int .i64 (Nm.FW S.r k),.bool (Nm.Rs S.r k)])/\KX B w0 A a m S w':=by
 obtain ⟨F,K,hB,hA⟩:=h.ex
 obtain ⟨t,e0⟩:=K.p 5 (by omega)
 refine (Rou.eW k w t).mono ?_
 rintro e w' ⟨rfl,q⟩
 exact ⟨rfl,h.sm q⟩
def lJ (h:KX B w0 A a m S w) (c:Int):
 Calls prog 60 #[.pointer (some ⟨a.rt,0,none⟩),.int .i64 (c)] w λe w'=>∃ v X,e=.returned v/\KX B w0 (X++A) a m S w'/\Rw X v (Cl S c):=by
 obtain ⟨F,K,hB,hA⟩:=h.ex
 obtain ⟨t,e0⟩:=K.p 5 (by omega)
 refine (Rou.eY c w t).mono ?_
 rintro e w' ⟨v,rfl,q⟩
 obtain ⟨X,k,r⟩:=h.row q.own q.bel
 exact ⟨v,X,rfl,k,r⟩
def Sw (h:KX B w0 A a m S w) (c:Int):
 Calls prog 229 #[.pointer (some ⟨a.wk+6,0,none⟩),.int .i64 (c)] w λe w'=>e=.returned (.tuple #[.int .i64 (Cm.kT a.n S.wk c),.int .i64 (Cm.kU a.n S.wk c)])/\KX B w0 A a (m) ((queue a.n S c).2.2) w':=by
 obtain ⟨F,K,hB,hA⟩:=h.ex
 obtain ⟨t,e0⟩:=K.p 6 (by omega)
 refine (Wrk.ZN c t h.tab).mono ?_
 rintro e w' ⟨rfl,t2,f⟩
 refine ⟨rfl,h.AQ K hB hA 6 (by omega) ?_ f ?_ (by simp [AU,queue]) (by omega)⟩
 ·exact ⟨t2,e0⟩
 ·intro k hk;rw [e0];simpa using hk
def qQ (h:KX B w0 A a m S w) (c:Int):
 Calls prog 132 #[.pointer (some ⟨a.wk+6,0,none⟩),.int .i64 (c)] w λe w'=>e=.returned (.tuple #[.int .i64 (Cm.LQ a.n S.wk c),.int .i64 (Cm.kV a.n S.wk c)])/\KX B w0 A a (m) ({ S with wk:=Cm.Rx a.n S.wk c }) w':=by
 obtain ⟨F,K,hB,hA⟩:=h.ex
 obtain ⟨t,e0⟩:=K.p 6 (by omega)
 refine (Wrk.Jo c t).mono ?_
 rintro e w' ⟨rfl,t2,f⟩
 refine ⟨rfl,h.AQ K hB hA 6 (by omega) ?_ f ?_ (by simp [AU]) (by omega)⟩
 ·exact ⟨t2,e0⟩
 ·intro k hk;rw [e0];simpa using hk
def bD (h:KX B w0 A a m S w) (c:Int):
 Calls prog 244 #[.pointer (some ⟨a.wk+6,0,none⟩),.int .i64 (c)] w λe w'=>e=.returned (.tuple #[.int .i64 (Cm.wL a.n S.wk c),.int .i64 (Cm.Ry a.n S.wk c)])/\KX B w0 A a (m) ({ S with wk:=Cm.Rz a.n S.wk c }) w':=by
 obtain ⟨F,K,hB,hA⟩:=h.ex
 obtain ⟨t,e0⟩:=K.p 6 (by omega)
 refine (Wrk.Wg c t).mono ?_
 rintro e w' ⟨rfl,t2,f⟩
 refine ⟨rfl,h.AQ K hB hA 6 (by omega) ?_ f ?_ (by simp [AU]) (by omega)⟩
 ·exact ⟨t2,e0⟩
 ·intro k hk;rw [e0];simpa using hk
def K5 (h:KX B w0 A a m S w) (c:Int):
 Calls prog 54 #[.pointer (some ⟨a.wk+6,0,none⟩),.int .i64 (c)] w λe w'=>e=.returned (.int .i64 (((Cm.E4 a.n S.wk c).length:Int)))/\KX B w0 A a m S w':=by
 obtain ⟨F,K,hB,hA⟩:=h.ex
 obtain ⟨t,e0⟩:=K.p 6 (by omega)
 refine (Wrk.ZK c t).mono ?_
 rintro e w' ⟨rfl,rfl⟩
 exact ⟨rfl,h⟩
def yQ (h:KX B w0 A a m S w) (id:Int) (hw:wf id):
 Calls prog 283 #[.pointer (some ⟨a.wk+6,0,none⟩),.int .i64 (id)] w λe w'=>e=.returned (.bool (Cm.JK S.wk id))/\KX B w0 A a m S w':=by
 obtain ⟨F,K,hB,hA⟩:=h.ex
 obtain ⟨t,e0⟩:=K.p 6 (by omega)
 refine (Wrk.eZ id hw t).mono ?_
 rintro e w' ⟨rfl,rfl⟩
 exact ⟨rfl,h⟩
def U9 (K:Cm.Ks) (k:Nat) (x:Option Nat):(Cm.NF K k x).length=K.length:=by cases x <;> simp [Cm.NF]
def qR (K:Cm.Ks) (c:Int):(Cm.Ru K c).length=K.length:=by unfold Cm.Ru;split <;> simp [U9]
def qS (K:Cm.Ks) (c:Int):(Cm.NH K c).length=K.length:=by unfold Cm.NH;split <;> simp
def qT (K:Cm.Ks) (c d:Int):(Cm.DV K c d).length=K.length:=by unfold Cm.DV Cm.mv;repeat' split <;> simp
def qU (h:KX B w0 A a m S w) (c:Int):
 Calls prog 232 #[.pointer (some ⟨a.cl+3,0,none⟩),.int .i64 (c)] w λe w'=>e=.returned (.tuple #[.int .i64 (Cm.kQ S.cl c),.int .i64 (Cm.kR S.cl c)])/\KX B w0 A a (m) ((call S c).2.2) w':=by
 obtain ⟨F,K,hB,hA⟩:=h.ex
 obtain ⟨t,l0,e0⟩:=K.p 7 (by omega)
 refine (Wrk.fB c t h.tab).mono ?_
 rintro e w' ⟨rfl,t2,f⟩
 refine ⟨rfl,h.AQ K hB hA 7 (by omega) ?_ f ?_ (by simp [AU,call]) (by omega)⟩
 ·exact ⟨t2,(qR _ _).trans l0,e0⟩
 ·intro k hk;rw [e0];rw [l0] at hk;simpa using hk
def qV (h:KX B w0 A a m S w) (c:Int):
 Calls prog 129 #[.pointer (some ⟨a.cl+3,0,none⟩),.int .i64 (c)] w λe w'=>e=.returned (.tuple #[.int .i64 (Cm.LO S.cl c),.int .i64 (Cm.kS S.cl c)])/\KX B w0 A a (m) ({ S with cl:=Cm.NH S.cl c }) w':=by
 obtain ⟨F,K,hB,hA⟩:=h.ex
 obtain ⟨t,l0,e0⟩:=K.p 7 (by omega)
 refine (Wrk.Jq c t).mono ?_
 rintro e w' ⟨rfl,t2,f⟩
 refine ⟨rfl,h.AQ K hB hA 7 (by omega) ?_ f ?_ (by simp [AU]) (by omega)⟩
 ·exact ⟨t2,(qS _ _).trans l0,e0⟩
 ·intro k hk;rw [e0];rw [l0] at hk;simpa using hk
def qW (h:KX B w0 A a m S w) (c d:Int):
 Calls prog 245 #[.pointer (some ⟨a.cl+3,0,none⟩),.int .i64 (c),.int .i64 (d)] w λe w'=>e=.returned (.tuple #[.int .i64 (Cm.Rl S.cl c d),.int .i64 (Cm.GQ S.cl c d)])/\KX B w0 A a (m) ({ S with cl:=Cm.DV S.cl c d }) w':=by
 obtain ⟨F,K,hB,hA⟩:=h.ex
 obtain ⟨t,l0,e0⟩:=K.p 7 (by omega)
 refine (Wrk.ZP c d t).mono ?_
 rintro e w' ⟨rfl,t2,f⟩
 refine ⟨rfl,h.AQ K hB hA 7 (by omega) ?_ f ?_ (by simp [AU]) (by omega)⟩
 ·exact ⟨t2,(qT _ _ _).trans l0,e0⟩
 ·intro k hk;rw [e0];rw [l0] at hk;simpa using hk
def Va (h:KX B w0 A a m S w) (c:Int):
 Calls prog 56 #[.pointer (some ⟨a.cl+3,0,none⟩),.int .i64 (c)] w λe w'=>e=.returned (.int .i64 (((Cm.LP S.cl c).length:Int)))/\KX B w0 A a m S w':=by
 obtain ⟨F,K,hB,hA⟩:=h.ex
 obtain ⟨t,l0,e0⟩:=K.p 7 (by omega)
 refine (Wrk.ZQ c t).mono ?_
 rintro e w' ⟨rfl,rfl⟩
 exact ⟨rfl,h⟩
def KX.XJ (h:KX B w0 A a m S w) (K:KW w a S m F) (hB:∀ i,i<16->∀ g∈F i,B<=g) (hA:∀ x∈A,∀ i,i<16->x.1∉F i) {pb lb:Nat} {V:List Value} (e0:F 8=a.ob::lb::pb::Sta.bl V) {A2:List Nat} {K2:List (List Int)} (kv:Hm.Kv 12 A2 K2) (s:Sta.SC w w' a.ob pb lb a.n 12 V A2 K2):KX B w0 A a m { S with oa:=A2,ok:=K2 } w':=by
 obtain ⟨V',q,sub⟩:=s.ex
 have l1:=K.lt 8 (by omega)
 have fs:=s.fr.size
 refine h.turn K hB hA 8 (by omega) (G:=a.ob::lb::pb::Sta.bl V') ⟨pb,lb,V',q,kv,rfl⟩ (s.fr.wide λk hk=>?_) (λg hg=>?_) (λg hg=>?_) (by simp [AU]) (by omega)
 ·rw [e0]
  simp only [AD0] at hk ⊢
  exact Or.inr hk
 ·rw [e0]
  simp only [AD0] at hg ⊢
  rcases hg with e | e | e | e
  ·exact Or.inl (Or.inl e)
  ·exact Or.inl (Or.inr (Or.inl e))
  ·exact Or.inl (Or.inr (Or.inr (Or.inl e)))
  ·rcases sub g e with e | e
   ·exact Or.inl (Or.inr (Or.inr (Or.inr e)))
   ·exact Or.inr e
 ·simp only [AD0] at hg
  have l2:∀ k,k∈F 8->k<w'.heap.size:=λk hk=>AD7 (l1 k hk) fs
  rw [e0] at l2
  rcases hg with e | e | e | e
  ·exact l2 g (by simp [e])
  ·exact l2 g (by simp [e])
  ·exact l2 g (by simp [e])
  ·exact Sta.St.Gp q.st e
def gW (h:KX B w0 A a m S w) (c:Int):
 Calls prog 233 #[.pointer (some ⟨a.ob,0,none⟩),.int .i64 (c)] w λe w'=>e=.returned (.tuple #[.int .i64 (Hm.SM 12 a.n S.oa S.ok c),.int .i64 (Hm.SK 12 a.n S.oa S.ok c)])/\KX B w0 A a m ((alloc a.n S c).2.2) w':=by
 obtain ⟨F,K,hB,hA⟩:=h.ex
 obtain ⟨pb,lb,V,t,o,e0⟩:=K.p 8 (by omega)
 refine (Sta.Wn c w t o.kl).mono ?_
 rintro e w' ⟨rfl,s⟩
 exact ⟨rfl,h.XJ K hB hA e0 (Hm.fI o t.st.kn c) s⟩
def qX (h:KX B w0 A a m S w) (c x:Int):
 Calls prog 235 #[.pointer (some ⟨a.ob,0,none⟩),.int .i64 (c),.int .i64 (x)] w λe w'=>e=.returned (.int .i64 (Hm.NK 12 a.n S.oa S.ok c x))/\KX B w0 A a m ((gN a.n S c x).2) w':=by
 obtain ⟨F,K,hB,hA⟩:=h.ex
 obtain ⟨pb,lb,V,t,o,e0⟩:=K.p 8 (by omega)
 refine (Sta.Gv c x w t o.kl).mono ?_
 rintro e w' ⟨rfl,s⟩
 exact ⟨rfl,h.XJ K hB hA e0 (Hm.pA o t.st.kn c x) s⟩
def Sx (h:KX B w0 A a m S w) (c:Int):
 Calls prog 240 #[.pointer (some ⟨a.ob,0,none⟩),.int .i64 (c)] w λe w'=>e=.returned (.tuple #[.int .i64 (Hm.VD a.n S.ok c),.int .i64 (Hm.EO a.n c)])/\KX B w0 A a m (drain a.n S c) w':=by
 obtain ⟨F,K,hB,hA⟩:=h.ex
 obtain ⟨pb,lb,V,t,o,e0⟩:=K.p 8 (by omega)
 refine (Sta.Wo c w t o.kl).mono ?_
 rintro e w' ⟨rfl,s⟩
 exact ⟨rfl,h.XJ K hB hA e0 (Hm.fJ o t.st.kn c) s⟩
def qY (L:List Int) (c x:Int):(Pm.Dn L c x).length=L.length:=by unfold Pm.Dn;split <;> simp
def qZ (L:List Int) (c d:Int):(Pm.E7 L c d).length=L.length:=by unfold Pm.E7;split <;> simp
def rA (st:Int) (L:List Int) (c:Int):(Em.ID st L c).length=L.length:=by unfold Em.ID;split <;> simp
def rB (L:List Int) (c:Int):(Em.Jv L c).length=L.length:=by unfold Em.Jv;split <;> simp
def KJ (h:KX B w0 A a m S w) (c:Int):
 Calls prog 128 #[.pointer (some ⟨a.ct,0,none⟩),.int .i64 (c),.int .i64 (1)] w λe w'=>e=.returned (.int .i64 (Pm.BA S.ct c 1))/\KX B w0 A a (m) (BI S c) w':=by
 obtain ⟨F,K,hB,hA⟩:=h.ex
 obtain ⟨g,t,l0,e0⟩:=K.p 9 (by omega)
 refine (Spl.H3 c 1 w t ⟨by decide,by decide⟩).mono ?_
 rintro e w' ⟨rfl,t2,f⟩
 refine ⟨rfl,h.AQ K hB hA 9 (by omega) ?_ f ?_ (by simp [AU,BI]) (by omega)⟩
 ·exact ⟨g,t2,(qY _ _ _).trans l0,e0⟩
 ·intro k hk;rw [e0];simp only [AD0,ADt,or_false] at hk ⊢;simp [hk]
def rC (h:KX B w0 A a m S w) (c d:Int):
 Calls prog 247 #[.pointer (some ⟨a.ct,0,none⟩),.int .i64 (c),.int .i64 (d)] w λe w'=>e=.returned (.int .i64 (Pm.JM S.ct c d))/\KX B w0 A a (m) ({ S with ct:=Pm.E7 S.ct c d }) w':=by
 obtain ⟨F,K,hB,hA⟩:=h.ex
 obtain ⟨g,t,l0,e0⟩:=K.p 9 (by omega)
 refine (Spl.fN c d w t).mono ?_
 rintro e w' ⟨rfl,t2,f⟩
 refine ⟨rfl,h.AQ K hB hA 9 (by omega) ?_ f ?_ (by simp [AU]) (by omega)⟩
 ·exact ⟨g,t2,(qZ _ _ _).trans l0,e0⟩
 ·intro k hk;rw [e0];simp only [AD0,ADt,or_false] at hk ⊢;simp [hk]
def Nl {s:Nat} {R:Option Hp.Rq} {P:Int->Bool} {N:Nat} (h:Hot.PD w s Z R P N):∀ g∈Z,g<w.heap.size:=by
 obtain ⟨_,_,h⟩:=h
 exact h.lt
def rD (h:KX B w0 A a m S w) (k:Int) (hw:wf k) (hm:m<=1000000):
 Calls prog 339 #[.pointer (some ⟨a.dk,0,none⟩),.int .i64 (k)] w λe w'=>e=.returned (.int .i64 (Hp.Dk k))/\KX B w0 A a (m+1) ({ S with P:=Hp.Zk S.P k }) w':=by
 obtain ⟨F,K,hB,hA⟩:=h.ex
 have t:=K.p 10 (by omega)
 simp only [Part] at t
 refine (Hot.Zq k hw w t hm).mono ?_
 rintro e w' ⟨rfl,F',t2,mv⟩
 exact ⟨rfl,h.turn K hB hA 10 (by omega) (G:=F') t2 mv.1 mv.2 (Nl t2) (by simp [AU]) (by omega)⟩
def gX (h:KX B w0 A a m S w) (up:Bool) (c y:Int):
 Calls prog 337 #[.pointer (some ⟨a.dk,0,none⟩),.bool up,.int .i64 (c),.int .i64 (y)] w λe w'=>e=.returned (.int .i64 (Hp.BF S.R c y))/\KX B w0 A a (m) ({ S with R:=Hp.EF S.R up c y }) w':=by
 obtain ⟨F,K,hB,hA⟩:=h.ex
 have t:=K.p 10 (by omega)
 simp only [Part] at t
 refine (Hot.Wv up c y w t).mono ?_
 rintro e w' ⟨rfl,F',t2,mv⟩
 exact ⟨rfl,h.turn K hB hA 10 (by omega) (G:=F') t2 mv.1 mv.2 (Nl t2) (by simp [AU]) (by omega)⟩
def rE (h:KX B w0 A a m S w):
 Calls prog 123 #[.pointer (some ⟨a.dk,0,none⟩)] w λe w'=>e=.returned (.int .i64 (Hp.doE S.R))/\KX B w0 A a (m) (IS S) w':=by
 obtain ⟨F,K,hB,hA⟩:=h.ex
 have t:=K.p 10 (by omega)
 simp only [Part] at t
 refine (Hot.Zr w t).mono ?_
 rintro e w' ⟨rfl,F',t2,mv⟩
 exact ⟨rfl,h.turn K hB hA 10 (by omega) (G:=F') t2 mv.1 mv.2 (Nl t2) (by simp [AU,IS]) (by omega)⟩
def Nn (h:KX B w0 A a m S w):
 Calls prog 126 #[.pointer (some ⟨a.dk,0,none⟩)] w λe w'=>e=.returned (.tuple #[.int .i64 (Hp.Lc S.R),.int .i64 (Hp.Cy S.R)])/\KX B w0 A a (m) ({ S with R:=Hp.VL S.R }) w':=by
 obtain ⟨F,K,hB,hA⟩:=h.ex
 have t:=K.p 10 (by omega)
 simp only [Part] at t
 refine (Hot.fW w t).mono ?_
 rintro e w' ⟨rfl,F',t2,mv⟩
 exact ⟨rfl,h.turn K hB hA 10 (by omega) (G:=F') t2 mv.1 mv.2 (Nl t2) (by simp [AU]) (by omega)⟩
def rF (h:KX B w0 A a m S w):
 Calls prog 121 #[.pointer (some ⟨a.dk,0,none⟩)] w λe w'=>e=.returned (.tuple #[.agg #[.int .i64 ((Hp.FZ S.R:Nat):Int),.bool (Hp.Fa S.R),.bool (Hp.JO S.P S.R)],.int .i64 (Hp.CV S.R)])/\KX B w0 A a (m) (AZ S) w':=by
 obtain ⟨F,K,hB,hA⟩:=h.ex
 have t:=K.p 10 (by omega)
 simp only [Part] at t
 refine (Hot.Zu w t).mono ?_
 rintro e w' ⟨rfl,F',t2,mv⟩
 exact ⟨rfl,h.turn K hB hA 10 (by omega) (G:=F') t2 mv.1 mv.2 (Nl t2) (by simp [AU,AZ]) (by omega)⟩
def Ov (h:KX B w0 A a m S w):
 Calls prog 22 #[.pointer (some ⟨a.dk,0,none⟩)] w λe w'=>e=.returned (.bool S.R.isSome)/\KX B w0 A a m S w':=by
 obtain ⟨F,K,hB,hA⟩:=h.ex
 have t:=K.p 10 (by omega)
 simp only [Part] at t
 refine (Hot.Zo w t).mono ?_
 rintro e w' ⟨rfl,q⟩
 exact ⟨rfl,h.below q⟩
def lK (h:KX B w0 A a m S w):
 Calls prog 180 #[.pointer (some ⟨a.dk,0,none⟩)] w λe w'=>e=.returned (.bool (Hp.BC S.R))/\KX B w0 A a m S w':=by
 obtain ⟨F,K,hB,hA⟩:=h.ex
 have t:=K.p 10 (by omega)
 simp only [Part] at t
 refine (Hot.pN w t).mono ?_
 rintro e w' ⟨rfl,q⟩
 exact ⟨rfl,h.below q⟩
def IY (h:KX B w0 A a m S w):
 Calls prog 125 #[.pointer (some ⟨a.dk,0,none⟩)] w λe w'=>e=.returned (.int .i64 (Hp.Bq S.R))/\KX B w0 A a m S w':=by
 obtain ⟨F,K,hB,hA⟩:=h.ex
 have t:=K.p 10 (by omega)
 simp only [Part] at t
 refine (Hot.fV w t).mono ?_
 rintro e w' ⟨rfl,q⟩
 exact ⟨rfl,h.below q⟩
def Qr (h:KX B w0 A a m S w):
 Calls prog 111 #[.pointer (some ⟨a.dk,0,none⟩)] w λe w'=>e=.returned (.int .i64 (Hp.cos S.R))/\KX B w0 A a m S w':=by
 obtain ⟨F,K,hB,hA⟩:=h.ex
 have t:=K.p 10 (by omega)
 simp only [Part] at t
 refine (Hot.pO w t).mono ?_
 rintro e w' ⟨rfl,q⟩
 exact ⟨rfl,h.below q⟩
def K6 (h:KX B w0 A a m S w):
 Calls prog 124 #[.pointer (some ⟨a.dk,0,none⟩)] w λe w'=>e=.returned (.bool (Hp.NR S.R))/\KX B w0 A a m S w':=by
 obtain ⟨F,K,hB,hA⟩:=h.ex
 have t:=K.p 10 (by omega)
 simp only [Part] at t
 refine (Hot.P8 w t).mono ?_
 rintro e w' ⟨rfl,q⟩
 exact ⟨rfl,h.below q⟩
def Vb (h:KX B w0 A a m S w):
 Calls prog 338 #[.pointer (some ⟨a.gt,0,none⟩)] w λe w'=>e=.returned (.int .i64 (Em.Aa S.gs))/\KX B w0 A a (m) ({ S with gs:=Em.SR S.gs }) w':=by
 obtain ⟨F,K,hB,hA⟩:=h.ex
 obtain ⟨g,t,l0,e0⟩:=K.p 11 (by omega)
 refine (CJ.Ze w t).mono ?_
 rintro e w' ⟨rfl,t2,f⟩
 refine ⟨rfl,h.AQ K hB hA 11 (by omega) ?_ f ?_ (by simp [AU]) (by omega)⟩
 ·exact ⟨g,t2,l0,e0⟩
 ·intro k hk;rw [e0];simp only [AD0,ADt,or_false] at hk ⊢;simp [hk]
def K7 (h:KX B w0 A a m S w):
 Calls prog 127 #[.pointer (some ⟨a.gt,0,none⟩)] w λe w'=>e=.returned (.int .i64 (Em.Jw S.gs))/\KX B w0 A a (m) ({ S with gs:=0 }) w':=by
 obtain ⟨F,K,hB,hA⟩:=h.ex
 obtain ⟨g,t,l0,e0⟩:=K.p 11 (by omega)
 refine (CJ.Zf w t).mono ?_
 rintro e w' ⟨rfl,t2,f⟩
 refine ⟨rfl,h.AQ K hB hA 11 (by omega) ?_ f ?_ (by simp [AU]) (by omega)⟩
 ·exact ⟨g,t2,l0,e0⟩
 ·intro k hk;rw [e0];simp only [AD0,ADt,or_false] at hk ⊢;simp [hk]
def Vc (h:KX B w0 A a m S w):
 Calls prog 239 #[.pointer (some ⟨a.gt,0,none⟩)] w λe w'=>e=.returned (.int .i64 (Em.Bg S.gs S.gl))/\KX B w0 A a (m) (Qq S) w':=by
 obtain ⟨F,K,hB,hA⟩:=h.ex
 obtain ⟨g,t,l0,e0⟩:=K.p 11 (by omega)
 refine (CJ.Jo w t).mono ?_
 rintro e w' ⟨rfl,t2,f⟩
 refine ⟨rfl,h.AQ K hB hA 11 (by omega) ?_ f ?_ (by simp [AU,Qq]) (by omega)⟩
 ·exact ⟨g,t2,l0,e0⟩
 ·intro k hk;rw [e0];simp only [AD0,ADt,or_false] at hk ⊢;simp [hk]
def gY (h:KX B w0 A a m S w) (c:Int):
 Calls prog 293 #[.pointer (some ⟨a.gt,0,none⟩),.int .i64 (c)] w λe w'=>e=.returned (.int .i64 (Em.Cy S.gs S.gl c))/\KX B w0 A a (m) ((enter S c).2) w':=by
 obtain ⟨F,K,hB,hA⟩:=h.ex
 obtain ⟨g,t,l0,e0⟩:=K.p 11 (by omega)
 refine (CJ.Wq c w t).mono ?_
 rintro e w' ⟨rfl,t2,f⟩
 refine ⟨rfl,h.AQ K hB hA 11 (by omega) ?_ f ?_ (by simp [AU,enter]) (by omega)⟩
 ·exact ⟨g,t2,(rA _ _ _).trans l0,e0⟩
 ·intro k hk;rw [e0];simp only [AD0,ADt,or_false] at hk ⊢;simp [hk]
def gZ (h:KX B w0 A a m S w) (c:Int):
 Calls prog 295 #[.pointer (some ⟨a.gt,0,none⟩),.int .i64 (c)] w λe w'=>e=.returned (.int .i64 (Em.JN S.gl c))/\KX B w0 A a (m) ((left S c).2) w':=by
 obtain ⟨F,K,hB,hA⟩:=h.ex
 obtain ⟨g,t,l0,e0⟩:=K.p 11 (by omega)
 refine (CJ.Ws c w t).mono ?_
 rintro e w' ⟨rfl,t2,f⟩
 refine ⟨rfl,h.AQ K hB hA 11 (by omega) ?_ f ?_ (by simp [AU,left]) (by omega)⟩
 ·exact ⟨g,t2,(rB _ _).trans l0,e0⟩
 ·intro k hk;rw [e0];simp only [AD0,ADt,or_false] at hk ⊢;simp [hk]
def hO (h:KX B w0 A a m S w) (x:Nat) (hx:x<18446744073709551616):
 Calls prog 305 #[.pointer (some ⟨a.st,0,none⟩),.int .u64 (x:Int)] w λe w'=>e=.returned (.int .i64 (Ek.BF S.sl S.sh x))/\KX B w0 A a (m) ({ S with sl:=Ek.NQ S.sl S.sh x }) w':=by
 obtain ⟨F,K,hB,hA⟩:=h.ex
 obtain ⟨t,e0⟩:=K.p 12 (by omega)
 refine (Stp.Wt x hx w t).mono ?_
 rintro e w' ⟨rfl,t2,f⟩
 refine ⟨rfl,h.AQ K hB hA 12 (by omega) ?_ f ?_ (by simp [AU]) (by omega)⟩
 ·exact ⟨t2,e0⟩
 ·intro k hk;rw [e0];simpa using hk
def rG (h:KX B w0 A a m S w):
 Calls prog 307 #[.pointer (some ⟨a.st,0,none⟩)] w λe w'=>e=.returned (.int .i64 (Ek.Jw S.sl S.sh))/\KX B w0 A a (m) ({ S with sl:=0,sh:=0 }) w':=by
 obtain ⟨F,K,hB,hA⟩:=h.ex
 obtain ⟨t,e0⟩:=K.p 12 (by omega)
 refine (Stp.Zh w t).mono ?_
 rintro e w' ⟨rfl,t2,f⟩
 refine ⟨rfl,h.AQ K hB hA 12 (by omega) ?_ f ?_ (by simp [AU]) (by omega)⟩
 ·exact ⟨t2,e0⟩
 ·intro k hk;rw [e0];simpa using hk
def yR (h:KX B w0 A a m S w) (c:Int):
 Calls prog 76 #[.pointer (some ⟨a.st,0,none⟩),.int .i64 (c)] w λe w'=>e=.returned (.int .i64 (Ek.VI S.sl c))/\KX B w0 A a (m) (XE S c) w':=by
 obtain ⟨F,K,hB,hA⟩:=h.ex
 obtain ⟨t,e0⟩:=K.p 12 (by omega)
 refine (Stp.fS c w t).mono ?_
 rintro e w' ⟨rfl,t2,f⟩
 refine ⟨rfl,h.AQ K hB hA 12 (by omega) ?_ f ?_ (by simp [AU,XE]) (by omega)⟩
 ·exact ⟨t2,e0⟩
 ·intro k hk;rw [e0];simpa using hk
def ABz (h:KX B w0 A a m S w):
 Calls prog 304 #[.pointer (some ⟨a.st,0,none⟩)] w λe w'=>e=.returned (.bool (Ek.Gb S.sl S.sh))/\KX B w0 A a m S w':=by
 obtain ⟨F,K,hB,hA⟩:=h.ex
 obtain ⟨t,e0⟩:=K.p 12 (by omega)
 refine (Stp.Kz w t).mono ?_
 rintro e w' ⟨rfl,q⟩
 exact ⟨rfl,h.sm q⟩
def Vd (h:KX B w0 A a m S w) (c:Int):
 Calls prog 109 #[.pointer (some ⟨a.st,0,none⟩),.int .i64 (c)] w λe w'=>e=.returned (.bool (tb S.sl c))/\KX B w0 A a m S w':=by
 obtain ⟨F,K,hB,hA⟩:=h.ex
 obtain ⟨t,e0⟩:=K.p 12 (by omega)
 refine (Stp.P6 c w t).mono ?_
 rintro e w' ⟨rfl,q⟩
 exact ⟨rfl,h.sm q⟩
def Ve (h:KX B w0 A a m S w) (c:Int):
 Calls prog 110 #[.pointer (some ⟨a.st,0,none⟩),.int .i64 (c)] w λe w'=>e=.returned (.bool (tb S.sh c))/\KX B w0 A a m S w':=by
 obtain ⟨F,K,hB,hA⟩:=h.ex
 obtain ⟨t,e0⟩:=K.p 12 (by omega)
 refine (Stp.Zg c w t).mono ?_
 rintro e w' ⟨rfl,q⟩
 exact ⟨rfl,h.sm q⟩
def iA (h:KX B w0 A a m S w):
 Calls prog 306 #[.pointer (some ⟨a.st,0,none⟩)] w λe w'=>e=.returned (.bool (Ek.GR S.sl S.sh))/\KX B w0 A a m S w':=by
 obtain ⟨F,K,hB,hA⟩:=h.ex
 obtain ⟨t,e0⟩:=K.p 12 (by omega)
 refine (Stp.Ix w t).mono ?_
 rintro e w' ⟨rfl,q⟩
 exact ⟨rfl,h.sm q⟩
end
def pi (x:Cor.Co.Kc):Bool×Bool:=(x.p,x.i)
def No (Y:List Cor.Co.Kc) (k:Nat):(Y.map pi).getD k (false,false)=pi (Y.getD k Cor.Co.kz):=by
 simp only [List.getD,ADn]
 cases Y[k]? <;> rfl
def bE (Y:List Cor.Co.Kc) (k:Nat) (x:Cor.Co.Kc):(Y.set k x).map pi=(Y.map pi).set k (pi x):=by rw [AFT]
def Vf (Y:List Cor.Co.Kc) {k:Nat} (hk:k<Y.length) {x:Cor.Co.Kc} (e:pi x=pi (Y.getD k Cor.Co.kz)):(Y.set k x).map pi=Y.map pi:=by
 rw [bE,e]
 apply AEH
 intro j
 rw [AD6]
 split
 ·rename_i q
  subst q
  simp [hk,List.getD]
 ·rfl
def I8 {Y:List Cor.Co.Kc} {c:Int} (h:Cor.Co.Bt Y.length c=true):Cor.Co.gt Y c=Y.getD c.toNat Cor.Co.kz:=by unfold Cor.Co.gt;rw [AHi h]
def ACA (Y:List Cor.Co.Kc) (c:Int) (on:Bool):(Cor.Co.Le Y c on).map pi=EH (Y.map pi) c on:=by
 unfold Cor.Co.Le Cor.Co.JS EH
 rw [ADz,No]
 by_cases h:Cor.Co.Bt Y.length c=true
 ·rw [AHi h,AHi h,I8 h]
  by_cases q:(Y.getD c.toNat Cor.Co.kz).p=on
  ·rw [AHi q,AHh (by decide),AHi (show (pi (Y.getD c.toNat Cor.Co.kz)).1=on from q)]
  ·rw [AHh q,AHi rfl,AHh (show ¬ (pi (Y.getD c.toNat Cor.Co.kz)).1=on from q),bE]
   rfl
 ·rw [AHh h,AHh h,AHh (by decide)]
def rH (z:List (Bool×Bool)) (c:Int) (on:Bool):(EH z c on).length=z.length:=by unfold EH;repeat' split <;> simp
section
variable {B:Nat} {w0:World} {A:List (Nat×List Value×TypeId)} {a:KA} {m m':Nat} {S S':KS} {w w':World}
def ME (h:KX B w0 A a m S w) (c:Int) (on:Bool):
 Calls prog 238 #[.pointer (some ⟨a.co,0,none⟩),.int .i64 c,.bool on] w λe w'=>(∃ x,e=.returned (.int .i64 x))/\KX B w0 A a m { S with z:=EH S.z c on } w':=by
 obtain ⟨F,K,hB,hA⟩:=h.ex
 obtain ⟨g,Y,t,y0,l0,e0⟩:=K.p 13 (by omega)
 refine (Cor.XA w c on t).mono ?_
 rintro e w' ⟨rfl,t2,f⟩
 refine ⟨⟨_,rfl⟩,h.AQ K hB hA 13 (by omega) ⟨g,_,t2,?_,?_,e0⟩ f (by rw [e0];simp) (by simp [AU]) (by omega)⟩
 ·show (Cor.Co.Le Y c on).map pi=EH S.z c on
  rw [ACA,<- y0]
  rfl
 ·show (EH S.z c on).length=a.n
  rw [rH,l0]
def bF (h:KX B w0 A a m S w) (c:Int) (hc:AJ a.n c=true):
 Calls prog 48 #[.pointer (some ⟨a.co,0,none⟩),.int .i64 c] w λe w'=>∃ x:Cor.Co.Kc,e=.returned (.tuple #[.agg #[.bool x.p,.bool x.i,.int .i64 x.way,.int .i64 x.since,.int .i64 x.steps,.int .i64 x.busy],.int .i64 0])/\pi x=zc S c/\KX B w0 A a m S w':=by
 obtain ⟨F,K,hB,hA⟩:=h.ex
 obtain ⟨g,Y,t,y0,l0,e0⟩:=K.p 13 (by omega)
 have ly:Y.length=a.n:=by rw [<- l0,<- y0,ADz]
 have k1:Cor.Co.Bt Y.length c=true:=by rw [ly];exact hc
 refine (Cor.gM w c t).mono ?_
 rintro e w' ⟨rfl,q⟩
 refine ⟨Cor.Co.gt Y c,?_,?_,h.below q⟩
 ·unfold Cor.Co.FB
  rw [AHi k1]
  rfl
 ·rw [I8 k1]
  unfold zc
  rw [<- y0]
  exact (No Y _).symm
def B4 (h:KX B w0 A a m S w) (c:Int) (b:Bool) (hc:AJ a.n c=true):
 Calls prog 73 #[.pointer (some ⟨a.co,0,none⟩),.int .i64 c,.bool b] w λe w'=>(∃ x,e=.returned (.int .i64 x))/\KX B w0 A a m S w':=by
 obtain ⟨F,K,hB,hA⟩:=h.ex
 obtain ⟨g,Y,t,y0,l0,e0⟩:=K.p 13 (by omega)
 have ly:Y.length=a.n:=by rw [<- l0,<- y0,ADz]
 have k1:Cor.Co.Bt Y.length c=true:=by rw [ly];exact hc
 have kl:c.toNat<Y.length:=by
  obtain ⟨k,rfl,hk⟩:=Cor.Co.Cq k1
  simpa using hk
 refine (Cor.XB w c b t).mono ?_
 rintro e w' ⟨rfl,t2,f⟩
 refine ⟨⟨_,rfl⟩,h.AQ K hB hA 13 (by omega) ⟨g,_,t2,?_,l0,e0⟩ f (by rw [e0];simp) (AU.refl _ _) (by omega)⟩
 rw [<- y0]
 show (Cor.Co.Ng Y c b).map pi=Y.map pi
 unfold Cor.Co.Ng
 rw [AHi k1,I8 k1]
 exact Vf Y kl rfl
def Vg (h:KX B w0 A a m S w) (c:Int) (hc:AJ a.n c=true):
 Calls prog 270 #[.pointer (some ⟨a.co,0,none⟩),.int .i64 c] w λe w'=>(∃ x y,e=.returned (.tuple #[.int .i64 x,.int .i64 y,.int .i64 0]))/\KX B w0 A a m S w':=by
 obtain ⟨F,K,hB,hA⟩:=h.ex
 obtain ⟨g,Y,t,y0,l0,e0⟩:=K.p 13 (by omega)
 have ly:Y.length=a.n:=by rw [<- l0,<- y0,ADz]
 have k1:Cor.Co.Bt Y.length c=true:=by rw [ly];exact hc
 have kl:c.toNat<Y.length:=by
  obtain ⟨k,rfl,hk⟩:=Cor.Co.Cq k1
  simpa using hk
 refine (Cor.Jq w c t).mono ?_
 rintro e w' ⟨rfl,t2,f⟩
 refine ⟨⟨_,_,by unfold Cor.Co.FB;rw [AHi k1]⟩,h.AQ K hB hA 13 (by omega) ⟨g,_,t2,?_,l0,e0⟩ f (by rw [e0];simp) (AU.refl _ _) (by omega)⟩
 rw [<- y0]
 show (Cor.Co.Sj Y c).map pi=Y.map pi
 unfold Cor.Co.Sj
 rw [AHi k1,I8 k1]
 exact Vf Y kl rfl
def rI (h:KX B w0 A a m S w) (c t:Int) (hc:AJ a.n c=true) (ht:Cor.Co.AO t=true):
 Calls prog 74 #[.pointer (some ⟨a.co,0,none⟩),.int .i64 c,.int .i64 t] w λe w'=>(∃ x y,e=.returned (.tuple #[.int .i64 x,.int .i64 y]))/\KX B w0 A a m (G9 S c) w':=by
 obtain ⟨F,K,hB,hA⟩:=h.ex
 obtain ⟨g,Y,q,y0,l0,e0⟩:=K.p 13 (by omega)
 have ly:Y.length=a.n:=by rw [<- l0,<- y0,ADz]
 have k1:Cor.Co.Bt Y.length c=true:=by rw [ly];exact hc
 have kl:c.toNat<Y.length:=by
  obtain ⟨k,rfl,hk⟩:=Cor.Co.Cq k1
  simpa using hk
 have z1:zc S c=pi (Y.getD c.toNat Cor.Co.kz):=by unfold zc;rw [<- y0];exact No Y _
 refine (Cor.aT w c t q).mono ?_
 rintro e w' ⟨rfl,t2,f⟩
 refine ⟨⟨_,_,rfl⟩,?_⟩
 have e1:(Cor.Co.IJ Y c t).map pi=(G9 S c).z:=by
  unfold Cor.Co.IJ Cor.Co.Ax G9
  rw [AHi k1,ht,I8 k1,z1]
  generalize Y.getD c.toNat Cor.Co.kz=x0
  obtain ⟨p,i,x2,x3,x4,x5⟩:=x0
  cases i <;> simp [pi]
  ·exact y0
  ·rw [<- y0]
   rfl
 have e2:AU 13 S (G9 S c):=by unfold G9;split <;> simp [AU]
 exact h.AQ K hB hA 13 (by omega) ⟨g,_,t2,e1,by rw [<- e1,ADz];show (Cor.Co.IJ Y c t).length=_;unfold Cor.Co.IJ;split <;> simp [ly],e0⟩ f (by rw [e0];simp) e2 (by omega)
def rJ (h:KX B w0 A a m S w) (c t p:Int) (hm:m<=1000000):
 Calls prog 274 #[.pointer (some ⟨a.mt,0,none⟩),.int .i64 c,.int .i64 t,.int .i64 p] w λe w'=>(∃ x,e=.returned (.int .i64 x))/\KX B w0 A a (m+1) S w':=by
 obtain ⟨F,K,hB,hA⟩:=h.ex
 obtain ⟨g,M,q,o,e0⟩:=K.p 14 (by omega)
 refine (Met.Ww w a.mt g a.n M c t p q (λk hk=>(o k hk).mono (by omega))).mono ?_
 rintro e w' ⟨rfl,t2,f⟩
 refine ⟨⟨_,rfl⟩,h.AQ K hB hA 14 (by omega) ⟨g,_,t2,λk hk=>((o.NV c t p) k hk).mono (by omega),e0⟩ f (by rw [e0];simp) (AU.refl _ _) (by omega)⟩
def rK (h:KX B w0 A a m S w) (c y t p:Int) (hm:m<=1000000):
 Calls prog 272 #[.pointer (some ⟨a.mt,0,none⟩),.int .i64 c,.int .i64 y,.int .i64 t,.int .i64 p] w λe w'=>(∃ x,e=.returned (.int .i64 x))/\KX B w0 A a (m+1) S w':=by
 obtain ⟨F,K,hB,hA⟩:=h.ex
 obtain ⟨g,M,q,o,e0⟩:=K.p 14 (by omega)
 refine (Met.Wx w a.mt g a.n M c y t p q (λk hk=>(o k hk).mono (by omega))).mono ?_
 rintro e w' ⟨rfl,t2,f⟩
 refine ⟨⟨_,rfl⟩,h.AQ K hB hA 14 (by omega) ⟨g,_,t2,λk hk=>((o.J2 c y t p) k hk).mono (by omega),e0⟩ f (by rw [e0];simp) (AU.refl _ _) (by omega)⟩
def Ow (h:KX B w0 A a m S w) (hc:c<a.n):w.cell? ⟨a.gv,c,none⟩=some (.pointer (some ⟨a.gs c,0,none⟩)):=by
 obtain ⟨F,K,hB,hA⟩:=h.ex
 obtain ⟨V,b,t,e0⟩:=K.p 15 (by omega)
 rw [b.cell c,ADl (by simpa using hc),ADn,AET hc]
 rfl
def KX.gov (h:KX B w0 A a m S w) (K:KW w a S m F) (hB:∀ i,i<16->∀ g∈F i,B<=g) (hA:∀ x∈A,∀ i,i<16->x.1∉F i) (hc:c<a.n) {lo hi lo2 hi2:Int} {q q2:List Frq.Fq} {p p2:Nat} (g0:Frq.PG w (a.gs c) lo2 hi2 q2 p2) (g:Frq.PG w' (a.gs c) lo hi q p) (li:Frq.JR lo hi) (f:Fr w.heap.size [a.gs c] w w'):KX B w0 A a m S w':=by
 obtain ⟨V,b,t,e0⟩:=K.p 15 (by omega)
 refine h.AQ K hB hA 15 (by omega) ⟨V,?_,λd hd=>?_,e0⟩ f ?_ (AU.refl _ _) (by omega)
 ·exact b.AA f b.lt (by simp;exact b.ne g0.sb (by decide))
 ·by_cases e:a.gs d=a.gs c
  ·rw [e];exact ⟨lo,hi,q,p,g,li⟩
  ·obtain ⟨l1,h1,q1,p1,g1,i1⟩:=t d hd
   exact ⟨l1,h1,q1,p1,g1.AA f g1.sb.lt (by simp;exact e),i1⟩
 ·intro k hk
  simp only [AD0,ADt,or_false] at hk
  rw [e0,hk]
  simp
  exact Or.inr ⟨c,hc,rfl⟩
def Vh (h:KX B w0 A a m S w) (hc:c<a.n) (x y:Int):
 Calls prog 271 #[.pointer (some ⟨a.gs c,0,none⟩),.int .i64 x,.int .i64 y] w λe w'=>(∃ x y,e=.returned (.tuple #[.int .i64 x,.int .i64 y]))/\KX B w0 A a m S w':=by
 obtain ⟨F,K,hB,hA⟩:=h.ex
 obtain ⟨V,b,t,e0⟩:=K.p 15 (by omega)
 obtain ⟨lo,hi,q,p,g,li⟩:=t c hc
 by_cases k:Frq.Fb ⟨x,y⟩
 ·refine (Frq.gH x y w g li k).mono ?_
  rintro e w' ⟨rfl,g2,f⟩
  exact ⟨⟨_,_,rfl⟩,h.gov K hB hA hc g g2 li f⟩
 ·refine (Frq.aG x y w k).mono ?_
  rintro e w' ⟨rfl,rfl⟩
  exact ⟨⟨_,_,rfl⟩,h⟩
def rL (h:KX B w0 A a m S w) (hc:c<a.n):
 Calls prog 275 #[.pointer (some ⟨a.gs c,0,none⟩)] w λe w'=>(∃ x,e=.returned (.int .i64 x))/\KX B w0 A a m S w':=by
 obtain ⟨F,K,hB,hA⟩:=h.ex
 obtain ⟨V,b,t,e0⟩:=K.p 15 (by omega)
 obtain ⟨lo,hi,q,p,g,li⟩:=t c hc
 refine (Frq.E' w g li).mono ?_
 rintro e w' ⟨rfl,f⟩
 exact ⟨⟨_,rfl⟩,h.below f⟩
def yS (h:KX B w0 A a m S w) (hc:c<a.n) (x y:Int):
 Calls prog 70 #[.pointer (some ⟨a.gs c,0,none⟩),.int .i64 x,.int .i64 y] w λe w'=>e=.returned (.int .i64 (KD x y))/\KX B w0 A a m S w':=by
 obtain ⟨F,K,hB,hA⟩:=h.ex
 obtain ⟨V,b,t,e0⟩:=K.p 15 (by omega)
 obtain ⟨lo,hi,q,p,g,li⟩:=t c hc
 unfold KD
 by_cases k:Frq.JR x y
 ·refine (Frq.VR x y w g k).mono ?_
  rintro e w' ⟨rfl,g2,f⟩
  exact ⟨by rw [AHi (show 1<=x/\x<=y/\y<=100000 from k)],h.gov K hB hA hc g g2 k f⟩
 ·refine (Frq.gG x y w k).mono ?_
  rintro e w' ⟨rfl,rfl⟩
  exact ⟨by rw [AHh (show ¬ (1<=x/\x<=y/\y<=100000) from k)],h⟩
end
section
variable {B:Nat} {w0:World} {A:List (Nat×List Value×TypeId)} {a:KA} {m m':Nat} {S S':KS} {w w':World}
def KX.own (h:KX B w0 A a m S w):w.cell? ⟨a.k,0,none⟩=some (.int .u64 (S.on:Int))/\w.cell? ⟨a.k,1,none⟩=some (.int .u64 (S.ac:Int)):=by
 obtain ⟨⟨l,b⟩,_⟩:=h.kb
 exact ⟨b.cell 0,b.cell 1⟩
def KX.c0 (h:KX B w0 A a m S w):w.cell? ⟨a.k,0,none⟩=some (.int .u64 (S.on:Int)):=h.own.1
def KX.c1 (h:KX B w0 A a m S w):w.cell? ⟨a.k,1,none⟩=some (.int .u64 (S.ac:Int)):=h.own.2
def KX.c2 (h:KX B w0 A a m S w):∃ l,w.cell? ⟨a.k,2,none⟩=some (.int .i64 l):=by obtain ⟨⟨l,b⟩,_⟩:=h.kb;exact ⟨l,b.cell 2⟩
def KX.c3 (h:KX B w0 A a m S w):w.cell? ⟨a.k,3,none⟩=some (.pointer (some ⟨a.th+2,0,none⟩)):=by obtain ⟨⟨l,b⟩,_⟩:=h.kb;exact b.cell 3
def KX.c4 (h:KX B w0 A a m S w):w.cell? ⟨a.k,4,none⟩=some (.pointer (some ⟨a.rq+2,0,none⟩)):=by obtain ⟨⟨l,b⟩,_⟩:=h.kb;exact b.cell 4
def KX.c5 (h:KX B w0 A a m S w):w.cell? ⟨a.k,5,none⟩=some (.pointer (some ⟨a.tm,0,none⟩)):=by obtain ⟨⟨l,b⟩,_⟩:=h.kb;exact b.cell 5
def KX.c6 (h:KX B w0 A a m S w):w.cell? ⟨a.k,6,none⟩=some (.pointer (some ⟨a.iq,0,none⟩)):=by obtain ⟨⟨l,b⟩,_⟩:=h.kb;exact b.cell 6
def KX.c7 (h:KX B w0 A a m S w):w.cell? ⟨a.k,7,none⟩=some (.pointer (some ⟨a.rt,0,none⟩)):=by obtain ⟨⟨l,b⟩,_⟩:=h.kb;exact b.cell 7
def KX.c8 (h:KX B w0 A a m S w):w.cell? ⟨a.k,8,none⟩=some (.pointer (some ⟨a.wk+6,0,none⟩)):=by obtain ⟨⟨l,b⟩,_⟩:=h.kb;exact b.cell 8
def KX.c9 (h:KX B w0 A a m S w):w.cell? ⟨a.k,9,none⟩=some (.pointer (some ⟨a.cl+3,0,none⟩)):=by obtain ⟨⟨l,b⟩,_⟩:=h.kb;exact b.cell 9
def KX.Np (h:KX B w0 A a m S w):w.cell? ⟨a.k,10,none⟩=some (.pointer (some ⟨a.ob,0,none⟩)):=by obtain ⟨⟨l,b⟩,_⟩:=h.kb;exact b.cell 10
def KX.Ge (h:KX B w0 A a m S w):w.cell? ⟨a.k,11,none⟩=some (.pointer (some ⟨a.ct,0,none⟩)):=by obtain ⟨⟨l,b⟩,_⟩:=h.kb;exact b.cell 11
def KX.AN (h:KX B w0 A a m S w):w.cell? ⟨a.k,12,none⟩=some (.pointer (some ⟨a.dk,0,none⟩)):=by obtain ⟨⟨l,b⟩,_⟩:=h.kb;exact b.cell 12
def KX.Fe (h:KX B w0 A a m S w):w.cell? ⟨a.k,13,none⟩=some (.pointer (some ⟨a.gt,0,none⟩)):=by obtain ⟨⟨l,b⟩,_⟩:=h.kb;exact b.cell 13
def KX.Ba (h:KX B w0 A a m S w):w.cell? ⟨a.k,14,none⟩=some (.pointer (some ⟨a.st,0,none⟩)):=by obtain ⟨⟨l,b⟩,_⟩:=h.kb;exact b.cell 14
def KX.BJ (h:KX B w0 A a m S w):w.cell? ⟨a.k,15,none⟩=some (.pointer (some ⟨a.co,0,none⟩)):=by obtain ⟨⟨l,b⟩,_⟩:=h.kb;exact b.cell 15
def KX.Vj (h:KX B w0 A a m S w):w.cell? ⟨a.k,16,none⟩=some (.pointer (some ⟨a.mt,0,none⟩)):=by obtain ⟨⟨l,b⟩,_⟩:=h.kb;exact b.cell 16
def KX.QK (h:KX B w0 A a m S w):w.cell? ⟨a.k,17,none⟩=some (.slice (some ⟨a.gv,0,none⟩) a.n a.gc):=by obtain ⟨⟨l,b⟩,_⟩:=h.kb;exact b.cell 17
def KX.fz (h:KX B w0 A a m S w) (i:Nat):w.frozen? ⟨a.k,i,none⟩=false:=by obtain ⟨⟨l,b⟩,_⟩:=h.kb;exact b.free i
def KX.AO (h:KX B w0 A a m S w):0<=S.now/\S.now<=1152921504606846976:=by
 obtain ⟨F,K,_⟩:=h.ex
 have t:=K.p 3 (by omega)
 simp only [Part] at t
 obtain ⟨sb,sg,tb,mb,SS,G,W,O,b,_⟩:=t
 obtain ⟨mp,V,q,_⟩:=b.ws 0 h.n1
 exact q.now
def KX.iB (h:KX B w0 A a m S w) {x y:Nat} {l:Int} (hx:x<18446744073709551616) (hy:y<18446744073709551616) (k:AB w' a.k (kc a { S with on:=x,ac:=y } l) 68) (f:Fr w.heap.size [a.k] w w'):KX B w0 A a m { S with on:=x,ac:=y } w':=by
 obtain ⟨F,K,hB,hA⟩:=h.ex
 obtain ⟨_,_,e0⟩:=K.p 0 (by omega)
 exact h.AQ K hB hA 0 (by omega) ⟨⟨l,k⟩,⟨hx,hy⟩,e0⟩ f (by rw [e0];simp) (by simp [AU]) (by omega)
def KX.lL (h:KX B w0 A a m S w) {x:Nat} (hx:x<18446744073709551616):KX B w0 A a m { S with on:=x } (w.setCell ⟨a.k,0,none⟩ (.int .u64 (x:Int))):=by
 obtain ⟨⟨l,b⟩,h1,h2⟩:=h.kb
 exact h.iB (l:=l) hx h2 (b.set 0 _) ((Fr.refl _ _ _).setCell (Or.inr (by simp)) _)
def KX.XK (h:KX B w0 A a m S w) {x:Nat} (hx:x<18446744073709551616):KX B w0 A a m { S with ac:=x } (w.setCell ⟨a.k,1,none⟩ (.int .u64 (x:Int))):=by
 obtain ⟨⟨l,b⟩,h1,h2⟩:=h.kb
 exact h.iB (l:=l) h1 hx (b.set 1 _) ((Fr.refl _ _ _).setCell (Or.inr (by simp)) _)
def KX.yT (h:KX B w0 A a m S w) (x:Int):KX B w0 A a m S (w.setCell ⟨a.k,2,none⟩ (.int .i64 x)):=by
 obtain ⟨⟨l,b⟩,h1,h2⟩:=h.kb
 exact h.iB (l:=x) h1 h2 (b.set 2 _) ((Fr.refl _ _ _).setCell (Or.inr (by simp)) _)
end
def Nq (x y:Int) (w:World) (hx:0<=x) (hx2:x<=1152921504606846976):
 Calls prog 207 #[.int .i64 x,.int .i64 y] w λe w'=>e=.returned (.tuple #[.int .i64 (lv x y),.int .i64 (le x y)])/\w'=w:=by
 unfold lv le
 by_cases h1:y<0
 ·have k:x<0\/1152921504606846976<x\/y<0\/1073741824<y:=by omega
  rw [AHi k,AHi k]
  clear k
  have d1:¬ x<0:=by omega
  have d2:¬ 1152921504606846976<x:=by omega
  go_enter func207,ntmps207
  go_wp2
  go_ret2
  exact ⟨rfl,rfl⟩
 ·by_cases h2:1073741824<y
  ·have k:x<0\/1152921504606846976<x\/y<0\/1073741824<y:=by omega
   rw [AHi k,AHi k]
   clear k
   have d1:¬ x<0:=by omega
   have d2:¬ 1152921504606846976<x:=by omega
   go_enter func207,ntmps207
   go_wp2
   go_ret2
   exact ⟨rfl,rfl⟩
  ·have k:¬ (x<0\/1152921504606846976<x\/y<0\/1073741824<y):=by omega
   rw [AHh k,AHh k]
   clear k
   have d1:¬ x<0:=by omega
   have d2:¬ 1152921504606846976<x:=by omega
   have e:IntKind.i64.wrap (x+y)=x+y:=by rw [IntKind.wrap_i64];omega
   by_cases h3:1152921504606846976<x+y
   ·rw [AHi h3,AHi h3]
    go_enter func207,ntmps207
    go_wp2
    go_ret2
    exact ⟨rfl,rfl⟩
   ·rw [AHh h3,AHh h3]
    go_enter func207,ntmps207
    go_wp2
    go_ret2
    exact ⟨rfl,rfl⟩
section
variable {B:Nat} {w0:World} {A:List (Nat×List Value×TypeId)} {a:KA} {m m':Nat} {S S':KS} {w w':World}
def KX.alloc (h:KX B w0 A a m S w) (o:Obj):KX B w0 A a m S (w.alloc o):=h.below (((Fr.refl w.heap.size [] w).alloc (ADW _) o).below (by simp))
def KX.new (h:KX B w0 A a m S w) (cs:List Value) (t:TypeId):KX B w0 ((w.heap.size,cs,t)::A) a m S (w.alloc (.cells cs.toArray t)):=h.box (AB.new w cs t) (((Fr.refl w.heap.size [] w).alloc (ADW _) _).below (by simp)) (ADW _)
def ACB {O:Nat->Bool} {c:Int} {f:Bool} (q:¬ Tm.Dk n O id c=0):Tm.GA n O X id c f=X:=by
 unfold Tm.Dk at q
 unfold Tm.GA
 rw [AHh]
 rintro ⟨h1,h2⟩
 rw [AHi h1,AHi h2] at q
 exact q rfl
def K8  (a:KA) (w:World):
 Calls prog 40 #[.pointer (some ⟨a.k,0,none⟩)] w λe w'=>e=.returned (.pointer (some ⟨a.k,0,none⟩))/\w'=w:=by
 go_enter func40,ntmps40
 go_wp2
 go_ret
 exact ⟨rfl,rfl⟩
def iC (h:KX B w0 A a m S w):
 Calls prog 14 #[.pointer (some ⟨a.k,0,none⟩)] w λe w'=>e=.returned (.int .u64 (S.on:Int))/\w'=w:=by
 have c0:=h.c0
 have C:Hid (∀ _:Unit,_):=λ_=>K8 a w
 clear h
 go_enter func14,ntmps14
 go_wp2_with fail
 refine (C.out ()).mono ?_
 rintro e w1 ⟨rfl,rfl⟩
 go_wp2
 go_ret
 exact ⟨rfl,rfl⟩
def ABG (h:KX B w0 A a m S w):
 Calls prog 9 #[.pointer (some ⟨a.k,0,none⟩)] w λe w'=>e=.returned (.int .u64 (S.ac:Int))/\w'=w:=by
 have c1:=h.c1
 have C:Hid (∀ _:Unit,_):=λ_=>K8 a w
 clear h
 go_enter func9,ntmps9
 go_wp2_with fail
 refine (C.out ()).mono ?_
 rintro e w1 ⟨rfl,rfl⟩
 go_wp2
 go_ret
 exact ⟨rfl,rfl⟩
def bG (h:KX B w0 A a m S w):
 Calls prog 136 #[.pointer (some ⟨a.k,0,none⟩)] w λe w'=>e=.returned (.int .i64 (a.n:Int))/\w'=w:=by
 have QK:=h.QK
 have C:Hid (∀ _:Unit,_):=λ_=>K8 a w
 clear h
 go_enter func136,ntmps136
 go_wp2_with fail
 refine (C.out ()).mono ?_
 rintro e w1 ⟨rfl,rfl⟩
 go_wp2
 go_ret
 exact ⟨rfl,rfl⟩
def lN (h:KX B w0 A a m S w):
 Calls prog 75 #[.pointer (some ⟨a.k,0,none⟩)] w λe w'=>e=.returned (.int .i64 S.now)/\KX B w0 A a m S w':=by
 have c5:=h.c5
 go_enter func75,ntmps75
 go_wp2_with fail
 refine (K8 a _).mono ?_
 rintro e w1 ⟨rfl,rfl⟩
 go_wp2_with fail
 refine (yN h).mono ?_
 rintro e w1 ⟨rfl,h1⟩
 go_wp2
 go_ret
 exact ⟨rfl,h1⟩
def Gf (h:KX B w0 A a m S w) (c:Int):
 Calls prog 41 #[.pointer (some ⟨a.k,0,none⟩),.int .i64 (c)] w λe w'=>e=.returned (.bool (AJ a.n c))/\w'=w:=by
 have QK:=h.QK
 clear h
 unfold AJ
 by_cases c1:c<0
 ·have e1:(decide (0<=c)&&decide (c<(a.n:Int)))=false:=by simp;omega
  rw [e1]
  go_enter func41,ntmps41
  go_wp2
  go_ret
  exact ⟨rfl,rfl⟩
 ·by_cases c2:c<(a.n:Int)
  ·have e1:(decide (0<=c)&&decide (c<(a.n:Int)))=true:=by simp;omega
   rw [e1]
   have c3:0<=c:=by omega
   go_enter func41,ntmps41
   go_wp2
   go_ret
   exact ⟨rfl,rfl⟩
  ·have e1:(decide (0<=c)&&decide (c<(a.n:Int)))=false:=by simp;omega
   rw [e1]
   have c3:0<=c:=by omega
   have c4:(a.n:Int)<=c:=by omega
   have c5:decide (c<(a.n:Int))=false:=AHk c2
   go_enter func41,ntmps41
   go_wp2
   go_ret
   exact ⟨rfl,rfl⟩
def Vl (h:KX B w0 A a m S w) (x:Nat) (c:Int) (hx:x<18446744073709551616) (hc:-9223372036854775808<=c):
 Calls prog 200 #[.pointer (some ⟨a.k,0,none⟩),.int .u64 (x:Int),.int .i64 (c)] w λe w'=>e=.returned (.tuple #[.int .i64 (Aff.cN x S.ac c),.bool (Aff.cF x S.ac)])/\w'=w:=by
 have c1:=h.c1
 have C:Hid (∀ _:Unit,_):=λ_=>Aff.W7 x S.ac c w hx h.kb.2.2 hc h.tab
 clear h
 generalize Aff.cN x S.ac c=y at *
 generalize Aff.cF x S.ac=z at *
 generalize Aff.cE S.ac=u at *
 go_enter func200,ntmps200
 go_wp2_with fail
 refine (C.out ()).mono ?_
 rintro e w1 ⟨rfl,rfl⟩
 go_wp2
 go_ret2
 exact ⟨rfl,rfl⟩
def Vm (h:KX B w0 A a m S w) (id p c:Int) (f:Bool) (hw:wf id) (hm:m<=1000000):
 Calls prog 153 #[.pointer (some ⟨a.k,0,none⟩),.int .i64 (id),.int .i64 (p),.int .i64 (c),.bool f] w λe w'=>e=.returned (.int .i64 (El a.n S id p c f).1)/\KX B w0 A a (m+1) (El a.n S id p c f).2 w':=by
 unfold El
 have c3:=h.c3
 have C:Hid (∀ _:Unit,_):=λ_=>gS h id c f
 by_cases q:Tm.Dk a.n S.O id c=0
 ·simp only [AHi q]
  rw [q] at C
  go_enter func153,ntmps153
  go_wp2_with fail
  refine (C.out ()).mono ?_
  rintro e w1 ⟨rfl,h1⟩
  have c4:=h1.c4
  go_wp2_with fail
  refine (yL h1 c p id hw hm).mono ?_
  rintro e w2 ⟨rfl,h2⟩
  go_wp2
  go_ret
  exact ⟨rfl,h2⟩
 ·simp only [AHh q]
  have e0:Tm.GA a.n S.O S.X id c f=S.X:=ACB q
  have H:Hid (∀ w',KX B w0 A a m { S with X:=Tm.GA a.n S.O S.X id c f } w'->KX B w0 A a (m+1) S w'):=λw' h=>by
   rw [e0] at h
   exact h.more (by omega)
  generalize Tm.Dk a.n S.O id c=y at *
  have q2:(y==0)=false:=by simpa using q
  go_enter func153,ntmps153
  go_wp2_with fail
  refine (C.out ()).mono ?_
  rintro e w1 ⟨rfl,h1⟩
  go_wp2
  go_ret
  exact ⟨rfl,H.out _ h1⟩
def XL (h:KX B w0 A a m S w) (id near:Int) (hw:wf id) (hn:-9223372036854775808<=near) (hm:m<=1000000):
 Calls prog 135 #[.pointer (some ⟨a.k,0,none⟩),.int .i64 (id),.int .i64 (near)] w λe w'=>e=.returned (.int .i64 (put a.n S id near).1)/\KX B w0 A a (m+1) (put a.n S id near).2 w':=by
 unfold put
 have c3:=h.c3
 have C:Hid (∀ _:Unit,_):=λ_=>Gd h id
 have g:=KH h id
 by_cases q:ER S id=0
 ·simp only [AHi q]
  rw [q] at C
  generalize Ao S id=t at *
  have t1:=g.1
  clear g
  go_enter func135,ntmps135
  go_wp2_with fail
  refine (C.out ()).mono ?_
  rintro e w1 ⟨rfl,h1⟩
  have h2:=h1.new [.int .i64 t.prio,.int .u64 (t.mask:Int),.int .i64 t.cpu,.bool t.forced,.bool t.sleeps,.int .i64 t.timer] 138
  go_wp2_with fail
  refine (Vl h2 t.mask near t1 hn).mono ?_
  rintro e w2 ⟨rfl,rfl⟩
  go_wp2_with fail
  refine (Vm h2 id t.prio _ _ hw hm).mono ?_
  rintro e w3 ⟨rfl,h3⟩
  go_wp2
  go_ret
  exact ⟨rfl,h3.drop⟩
 ·simp only [AHh q]
  generalize ER S id=y at *
  have q2:(y==0)=false:=by simpa using q
  go_enter func135,ntmps135
  go_wp2_with fail
  refine (C.out ()).mono ?_
  rintro e w1 ⟨rfl,h1⟩
  go_wp2
  go_ret
  exact ⟨rfl,(h1.alloc _).more (by omega)⟩
end
end Go.Proofs.YtdlhlfpigcgapaaGreatDoor.Krn
