import Derived.Test.YtpggbphcbcogdaaGreatDoorKit
import Derived.Test.YtpggbphcbcogdaaGreatDoorPlain
import Derived.Test.YtpggbphcbcogdaaGreatDoorProg
import Derived.WalkKit
import Derived.WalkSpells
namespace Go.Proofs.YtpggbphcbcogdaaGreatDoor
open Go.RowKit
namespace WName

set_option maxHeartbeats 400000 in
theorem zm4 (s:ByteArray) (w:World) (hs:s.size≤maxLen):
  Calls Tryz.prog 30 #[.string s] w fun e w'=>e= .returned (.bool (Pl.zb4 s))∧w'=w:=by
 unfold maxLen at hs;by_cases h1:s.size<1
 ·have e0:=hide (Pl.zv8 h1);go_enter Tryz.func30,Tryz.ntmps30
  go_wp2
  go_ret
  exact ⟨za0 (za e0).symm,rfl⟩
 by_cases h2:20<s.size
 ·have e0:=hide (Pl.zr7 h2);go_enter Tryz.func30,Tryz.ntmps30
  go_wp2
  go_ret
  exact ⟨za0 (za e0).symm,rfl⟩
 go_enter Tryz.func30,Tryz.ntmps30
 go_wp2
 go_loop [3] (fun i=>∃k:Nat,k≤s.size∧i= .int .i64 k∧Hid (∀j,j<k→Pl.okAt j ((s.data.toList.getD j 0).toNat))) (fun i=>s.size - (intOf i).toNat)
 case atStart=>exact ⟨0,Nat.zero_le _,rfl,fun j hj=>absurd hj (by omega)⟩
 case round=>
  obtain ⟨k,hk,rfl,hok⟩:=hrel;by_cases hlt:k<s.size
  ·by_cases hk0:k=0
   ·subst hk0;have okc:∀n:Nat,Pl.okAt 0 n↔(97≤n∧n≤122):=fun n=>by unfold Pl.okAt;omega
    have OK:=hide okc;clear okc
    rcases Pl.kinds (s[0].toNat:Int) with ⟨a1,a2⟩|⟨a1,a2,a3,a4⟩|⟨a1,a2,a3,a4⟩|⟨a1,a2,a3,a4⟩|⟨a1,a2,a3⟩|⟨a1,a2,a3,a4,a5⟩
    ·go_wp2
     go_round
     case rel=>exact ⟨1,by omega,rfl,Pl.zr2 hok.out hlt ((za OK _).2 (by omega))⟩
     case measure=>simp [intOf];omega
    all_goals
     go_wp2
     go_ret
     exact ⟨za0 (Pl.zo5 0 hlt (by rw [za OK];omega)).symm,rfl⟩
   ·have hkb:((k:Int)==0)=false:=by simp;omega
    have okc:∀n:Nat,Pl.okAt k n↔(97≤n∧n≤122)∨(48≤n∧n≤57)∨n=95:=fun n=>by unfold Pl.okAt;omega
    have OK:=hide okc;clear okc
    rcases Pl.kinds (s[k].toNat:Int) with ⟨a1,a2⟩|⟨a1,a2,a3,a4⟩|⟨a1,a2,a3,a4⟩|⟨a1,a2,a3,a4⟩|⟨a1,a2,a3⟩|⟨a1,a2,a3,a4,a5⟩
    ·go_wp2
     go_round
     case rel=>exact ⟨k+1,by omega,by go_num,Pl.zr2 hok.out hlt ((za OK _).2 (by omega))⟩
     case measure=>simp [intOf];omega
    ·go_wp2
     go_round
     case rel=>exact ⟨k+1,by omega,by go_num,Pl.zr2 hok.out hlt ((za OK _).2 (by omega))⟩
     case measure=>simp [intOf];omega
    ·go_wp2
     go_ret
     exact ⟨za0 (Pl.zo5 k hlt (by rw [za OK];simp at a4;omega)).symm,rfl⟩
    ·go_wp2
     go_round
     case rel=>exact ⟨k+1,by omega,by go_num,Pl.zr2 hok.out hlt ((za OK _).2 (by simp at a4;omega))⟩
     case measure=>simp [intOf];omega
    all_goals
     go_wp2
     go_ret
     exact ⟨za0 (Pl.zo5 k hlt (by rw [za OK];omega)).symm,rfl⟩
  ·have e0:Pl.zb4 s=true:=Pl.zx3 h1 h2 (fun j hj=>hok.out j (by omega));have E0:=hide e0;clear e0;go_wp2
   go_ret
   exact ⟨za0 (za E0).symm,rfl⟩

set_option maxHeartbeats 400000 in
theorem zk6 (s:ByteArray) (w:World) (hs:s.size≤maxLen):
  Calls Tryz.prog 54 #[.string s] w fun e w'=>e= .returned (.bool (Pl.zb4 s))∧w'=w:=by
 unfold maxLen at hs;by_cases h1:s.size<1
 ·have e0:=hide (Pl.zv8 h1);go_enter Tryz.func54,Tryz.ntmps54
  go_wp2
  go_ret
  exact ⟨za0 (za e0).symm,rfl⟩
 by_cases h2:20<s.size
 ·have e0:=hide (Pl.zr7 h2);go_enter Tryz.func54,Tryz.ntmps54
  go_wp2
  go_ret
  exact ⟨za0 (za e0).symm,rfl⟩
 have hp:0<s.size:=by omega
 by_cases hl:97≤(s[0].toNat:Int)∧(s[0].toNat:Int)≤122
 ·obtain ⟨l1,l2⟩:=hl;have H0:Hid (Pl.okAt 0 s[0].toNat):=Or.inl (by omega);go_enter Tryz.func54,Tryz.ntmps54
  go_wp2
  go_loop [21] (fun i=>∃k:Nat,k≤s.size∧i= .int .i64 k∧Hid (∀j,j<k→Pl.okAt j ((s.data.toList.getD j 0).toNat))) (fun i=>s.size - (intOf i).toNat)
  case atStart=>exact ⟨0,Nat.zero_le _,rfl,fun j hj=>absurd hj (by omega)⟩
  case round=>
   obtain ⟨k,hk,rfl,hok⟩:=hrel;by_cases hlt:k<s.size
   ·have hstep:Hid ((97≤s[k].toNat∧s[k].toNat≤122)∨(48≤s[k].toNat∧s[k].toNat≤57)∨s[k].toNat=95→∀j,j<k+1→Pl.okAt j ((s.data.toList.getD j 0).toNat)):=by
     intro ho;refine Pl.zr2 hok.out hlt ?_;by_cases hk0:k=0
     ·subst hk0;exact H0
     ·unfold Pl.okAt;omega
    have hbad:Hid (¬ ((97≤s[k].toNat∧s[k].toNat≤122)∨(48≤s[k].toNat∧s[k].toNat≤57)∨s[k].toNat=95)→Pl.zb4 s=false):=by
     intro hn;exact Pl.zo5 k hlt (by unfold Pl.okAt;omega)
    clear l1 l2 H0 hok
    rcases Pl.kinds (s[k].toNat:Int) with ⟨a1,a2⟩|⟨a1,a2,a3,a4⟩|⟨a1,a2,a3,a4⟩|⟨a1,a2,a3,a4⟩|⟨a1,a2,a3⟩|⟨a1,a2,a3,a4,a5⟩
    ·go_wp2
     go_round
     case rel=>exact ⟨k+1,by omega,by go_num,hstep.out (by omega)⟩
     case measure=>simp [intOf];omega
    ·go_wp2
     go_round
     case rel=>exact ⟨k+1,by omega,by go_num,hstep.out (by omega)⟩
     case measure=>simp [intOf];omega
    ·go_wp2
     go_ret
     exact ⟨za0 (hbad.out (by simp at a4;omega)).symm,rfl⟩
    ·go_wp2
     go_round
     case rel=>exact ⟨k+1,by omega,by go_num,hstep.out (by simp at a4;omega)⟩
     case measure=>simp [intOf];omega
    all_goals
     go_wp2
     go_ret
     exact ⟨za0 (hbad.out (by omega)).symm,rfl⟩
   ·have e0:Pl.zb4 s=true:=Pl.zx3 h1 h2 (fun j hj=>hok.out j (by omega));have E0:=hide e0;clear e0;go_wp2
    go_ret
    exact ⟨za0 (za E0).symm,rfl⟩
 ·have e0:Pl.zb4 s=false:=Pl.zo5 0 hp (by unfold Pl.okAt;omega);have E0:=hide e0;clear e0;by_cases g1:97≤(s[0].toNat:Int)
  ·have g2:¬ (s[0].toNat:Int)≤122:=by omega
   clear hl;go_enter Tryz.func54,Tryz.ntmps54
   go_wp2
   go_ret
   exact ⟨za0 (za E0).symm,rfl⟩
  ·clear hl;go_enter Tryz.func54,Tryz.ntmps54
   go_wp2
   go_ret
   exact ⟨za0 (za E0).symm,rfl⟩
end WName
end Go.Proofs.YtpggbphcbcogdaaGreatDoor
