import Derived.Test.YthdhhcgopfgcbaaGreatDoorG17
namespace Go.Proofs.YthdhhcgopfgcbaaGreatDoor
open Go.RowKit
namespace Pl
theorem chg_long {L:List Nd} {n:Nd} {c:Int} (h:¬ (n.path.size≤8000∧n.data.size≤8000)):chgC L n c=2:=by rw [chgC,if_neg h]
theorem chg_form {L:List Nd} {n:Nd} {c:Int} (h:n.path.size≤8000∧n.data.size≤8000) (h2:zd0 L=false∨za7 n=false):chgC L n c=1:=by
 rw [chgC,if_pos h,if_neg]
 rcases h2 with h2|h2 <;> simp [h2]
theorem chg_go {L:List Nd} {n:Nd} {c:Int} (h:n.path.size≤8000∧n.data.size≤8000) (h2:zd0 L=true) (h3:za7 n=true):chgC L n c=c:=by rw [chgC,if_pos h,if_pos ⟨h2,h3⟩]
end Pl
end Go.Proofs.YthdhhcgopfgcbaaGreatDoor
