import Derived.Test.YthdhhcgopfgcbaaGreatDoorWTreeS
namespace Go.Proofs.YthdhhcgopfgcbaaGreatDoor
open Go.RowKit
namespace Pl
def wayB (p:ByteArray):Bool:=decide (p.size≠0)&&za1 p
end Pl
namespace ze6
theorem at_none {L:List Pl.Nd} {p:ByteArray} {r:Int} (h:zl8.AtIs L p r) (hr:r<0):L.find? (fun m=>decide (m.path=p))=none:=by
 rcases h.out with ⟨k,n,h1,_,_⟩|⟨_,h2⟩
 ·omega
 ·exact h2
theorem ye8 {L:List Pl.Nd} {p:ByteArray} {r:Int} (h:zl8.AtIs L p r) (hr:¬r<0):L.find? (fun m=>decide (m.path=p))≠none:=by
 rcases h.out with ⟨k,n,_,_,h3⟩|⟨h1,_⟩
 ·rw [h3];simp
 ·omega
set_option linter.unusedSimpArgs false in
set_option maxRecDepth 100000 in
theorem yk0 (p:ByteArray) (w:World) (hp:p.size≤1048576):
  Calls Tryz.prog 16 #[.string p] w fun e w'=>e= .returned (.bool (Pl.wayB p))∧Below w.heap.size w w':=by
 have hr:=hide (fun W=>zg9.right_one p W hp);by_cases hs:p.size=0
 ·have t1:p.toList.isEmpty=true:=by rw [Pl.zd2];simpa [Pl.zh2] using hs
  rw [show Pl.wayB p=false by simp [Pl.wayB,hs]];go_enter Tryz.func16,Tryz.ntmps16
  go_wp2
  go_ret
  exact ⟨rfl,Below.refl _ _⟩
 ·have t1:p.toList.isEmpty=false:=by rw [Pl.zd2];simpa [Pl.zh2] using hs
  rw [show Pl.wayB p=Pl.za1 p by simp [Pl.wayB,hs]];go_enter Tryz.func16,Tryz.ntmps16
  go_wp2_with fail
  refine (za hr _).mono ?_;rintro e w1 ⟨rfl,b1⟩;go_wp2
  go_ret
  exact ⟨rfl,b1⟩
end ze6
end Go.Proofs.YthdhhcgopfgcbaaGreatDoor
