import Derived.Test.YtpggbphcbcogdaaGreatDoorKit
import Derived.Test.YtpggbphcbcogdaaGreatDoorPlainPar
import Derived.Test.YtpggbphcbcogdaaGreatDoorPlainR
import Derived.Test.YtpggbphcbcogdaaGreatDoorProg
import Derived.WalkSpells
namespace Go.Proofs.YtpggbphcbcogdaaGreatDoor
open Go.RowKit
namespace ze1
theorem join1_any (p n:ByteArray) (w:World) (hp:p.size≤1048576) (hq:n.size≤1048576):
  Calls Tryz.prog 19 #[.string p, .string n] w fun e w'=>e= .returned (.string (Pl.ze8 p n))∧w'=w:=by
 by_cases h0:Pl.by_ p=[]
 ·have E:=hide (Pl.joinN_root (n:=n) h0);have d1:p.toList.isEmpty=true:=by rw [Pl.zd7];simp [h0]
  clear h0;go_enter Tryz.func19,Tryz.ntmps19
  go_wp2
  go_ret
  exact ⟨zp0 (za E).symm,rfl⟩
 ·have E:Hid (p++⟨#[47]⟩++n=Pl.ze8 p n):=by
   show _=_
   apply Pl.zh7
   rw [Pl.joinN_two h0];simp [Pl.by_]
  have d1:p.toList.isEmpty=false:=by rw [Pl.zd7];simp [h0]
  clear h0;generalize Pl.ze8 p n=R at E ⊢;go_enter Tryz.func19,Tryz.ntmps19
  go_wp2
  go_ret
  exact ⟨by rw [←za E];rfl,rfl⟩

end ze1
end Go.Proofs.YtpggbphcbcogdaaGreatDoor
