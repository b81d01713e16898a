import Derived.Test.YtpggbphcbcogdaaGreatDoorPlainPar
import Derived.Test.YtpggbphcbcogdaaGreatDoorWParS
namespace Go.Proofs.YtpggbphcbcogdaaGreatDoor
open Go.RowKit
namespace ze1
theorem base1_any (s:ByteArray) (w:World) (hs:s.size≤maxLen):
  Calls Tryz.prog 34 #[.string s] w fun e w'=>e= .returned (.string (Pl.base s))∧w'=w:=by
 have hb:=Pl.slash_lt s s.size;have hc:=hide (fun W=>cut_any s W hs);unfold maxLen at hs;have E:Hid (Pl.base s=s.extract (Pl.zc1 s s.size+1).toNat s.size):=rfl;generalize Pl.base s=R at E ⊢;generalize Pl.zc1 s s.size=k at hc hb E;have t1:0≤k+1:=by omega
 have t2:k+1≤(s.size:Int):=by omega
 go_enter Tryz.func34,Tryz.ntmps34
 go_wp2_with (go_at_call 50;refine (za hc _).mono ?_;rintro e w' ⟨rfl,hw⟩;obtain rfl:=hw.symm)
 go_ret
 exact ⟨zp0 (za E).symm,rfl⟩
end ze1
end Go.Proofs.YtpggbphcbcogdaaGreatDoor
