import Derived.Lib.Strings
import Derived.Lib.Slices
import Derived.Lib.Small
import Derived.Lib.Walk
import Derived.Lib.BitFns
import Derived.Test.YtdlhlfpigcgapaaGreatDoorProg
set_option maxRecDepth 100000
set_option maxHeartbeats 16000000
set_option linter.unusedVariables false
set_option linter.unusedSimpArgs false
set_option linter.defProp false
namespace Go.Proofs.YtdlhlfpigcgapaaGreatDoor
def Dg (x:Int) (k:Nat) (n:Int) (h0:0<=x) (h1:x<=18446744073709551615) (hk:k=0\/((2 ^ k:Nat):Int)<=x) (hn:(x / ((2 ^ k:Nat):Int))=n) (hb:n<=255):
 (k:Int)+Lib.len8 n=(Lib.bitLen x.toNat:Int)/\Lib.len8 n<=8/\0<=Lib.len8 n:=by
 obtain ⟨X,rfl⟩:=Int.eq_ofNat_of_zero_le h0
 have hn':n=((X / 2 ^ k:Nat):Int):=by rw [<- hn,Int.natCast_ediv]
 have e:Lib.bitLen X=k+Lib.bitLen (X / 2 ^ k):=by
  rcases hk with rfl | hk
  ·simp
  ·exact Lib.bitLen_shift k X (by exact_mod_cast hk) (by omega)
 have n0:0<=n:=by rw [hn'];exact Int.natCast_nonneg _
 have l:=Lib.bitLen_le8' n n0 hb
 rw [Lib.len8_of n n0 hb,Int.toNat_natCast,e,hn',Int.toNat_natCast]
 rw [hn',Int.toNat_natCast] at l
 omega
def UP (x:Int) (w:World) (h0:0<=x) (h1:x<=18446744073709551615):
 Calls Tryz.prog 344 #[.int .u64 x] w λe w'=>e=.returned (.int .i64 (Lib.bitLen x.toNat))/\w'=w:=by
 go_enter Tryz.func344,Tryz.ntmps344
 go_wp2
 all_goals (go_ret;refine ⟨congrArg Ending.returned (congrArg (Value.int IntKind.i64) ?_),rfl⟩)
 all_goals first
  | (have c:=Dg x 56 (x / 4294967296 / 65536 / 256 % 256) h0 h1 (by omega) (by omega) (by omega);omega)
  | (have c:=Dg x 48 (x / 4294967296 / 65536 % 256) h0 h1 (by omega) (by omega) (by omega);omega)
  | (have c:=Dg x 40 (x / 4294967296 / 256 % 256) h0 h1 (by omega) (by omega) (by omega);omega)
  | (have c:=Dg x 32 (x / 4294967296 % 256) h0 h1 (by omega) (by omega) (by omega);omega)
  | (have c:=Dg x 24 (x / 65536 / 256 % 256) h0 h1 (by omega) (by omega) (by omega);omega)
  | (have c:=Dg x 16 (x / 65536 % 256) h0 h1 (by omega) (by omega) (by omega);omega)
  | (have c:=Dg x 8 (x / 256 % 256) h0 h1 (by omega) (by omega) (by omega);omega)
  | (have c:=Dg x 0 (x % 256) h0 h1 (by omega) (by omega) (by omega);omega)
end Go.Proofs.YtdlhlfpigcgapaaGreatDoor
