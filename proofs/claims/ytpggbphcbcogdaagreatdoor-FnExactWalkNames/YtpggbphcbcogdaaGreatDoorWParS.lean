import Derived.Test.YtpggbphcbcogdaaGreatDoorKit
import Derived.Test.YtpggbphcbcogdaaGreatDoorPlainPath
import Derived.WalkKit
import Derived.Laws.IdiomStrings
import Derived.Test.YtpggbphcbcogdaaGreatDoorProg
import Derived.WalkSpells
namespace Go.Proofs.YtpggbphcbcogdaaGreatDoor
open Go.RowKit
namespace ze1

set_option maxHeartbeats 400000 in
theorem cut_any (s:ByteArray) (w:World) (hs:s.size≤maxLen):
  Calls Tryz.prog 50 #[.string s] w fun e w'=>e= .returned (.int .i64 (Pl.zc1 s s.size))∧w'=w:=by
 unfold maxLen at hs;go_enter Tryz.func50,Tryz.ntmps50
 go_wp2
 go_loop [3,4] (fun x i=>∃k:Nat,k≤s.size∧i= .int .i64 (k:Int)∧x= .int .i64 (Pl.zc1 s k)) (fun _ i=>s.size - (intOf i).toNat)
 case atStart=>exact ⟨0,Nat.zero_le _,rfl,rfl⟩
 case round=>
  obtain ⟨k,hk,rfl,rfl⟩:=hrel;by_cases hlt:k<s.size
  ·by_cases hb:s[k].toNat=47
   ·have H:=hide (Pl.slash_hit hlt hb);have t1:((s[k].toNat:Int)==47)=true:=by rw [beq_iff_eq];omega
    clear hb;go_wp2
    go_round
    case rel=>exact ⟨k+1,by omega,by go_num,by rw [za H]⟩
    case measure=>simp [intOf];omega
   ·have H:=hide (Pl.zx8 hlt hb);have t1:((s[k].toNat:Int)==47)=false:=by rw [beq_eq_false_iff_ne];omega
    clear hb;go_wp2
    go_round
    case rel=>exact ⟨k+1,by omega,by go_num,by rw [za H]⟩
    case measure=>simp [intOf];omega
  ·obtain rfl:k=s.size:=by omega
   go_wp2
   go_ret
   exact ⟨rfl,rfl⟩

theorem zl2 (s:ByteArray) (w:World) (hs:s.size≤maxLen):
  Calls Tryz.prog 33 #[.string s] w fun e w'=>e= .returned (.string (Pl.parent s))∧w'=w:=by
 have hb:=Pl.slash_lt s s.size;have hc:=hide (cut_any s w hs);unfold maxLen at hs;have E0:Hid (Pl.zc1 s s.size<0→Pl.parent s=⟨#[]⟩):=fun h=>if_pos h;have E1:Hid (¬Pl.zc1 s s.size<0→Pl.parent s=s.extract 0 (Pl.zc1 s s.size).toNat):=fun h=>if_neg h;generalize Pl.zc1 s s.size=k at hc hb E0 E1;by_cases h:k<0
 ·have E:=hide (E0.out h);clear E0 E1;go_enter Tryz.func33,Tryz.ntmps33
  go_wp2_with (go_at_call 50;refine (za hc).mono ?_;rintro e w' ⟨rfl,hw⟩;obtain rfl:=hw.symm)
  go_ret
  exact ⟨zp0 (za E).symm,rfl⟩
 ·have E:=hide (E1.out h);have t1:0≤k:=by omega
  have t2:k≤(s.size:Int):=by omega
  clear E0 E1;go_enter Tryz.func33,Tryz.ntmps33
  go_wp2_with (go_at_call 50;refine (za hc).mono ?_;rintro e w' ⟨rfl,hw⟩;obtain rfl:=hw.symm)
  go_ret
  exact ⟨zp0 (za E).symm,rfl⟩
end ze1
end Go.Proofs.YtpggbphcbcogdaaGreatDoor
