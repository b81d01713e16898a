import Derived.Test.YtpggbphcbcogdaaGreatDoorWNodesI
namespace Go.Proofs.YtpggbphcbcogdaaGreatDoor
open Go.RowKit Go.Maps
namespace zf5
set_option linter.unusedSimpArgs false in
set_option maxRecDepth 100000 in
set_option maxHeartbeats 2000000 in
theorem at_some (B N:Nat) (D:DataW Unit) (p:ByteArray) (m:Pl.Nd) (w:World) (hp:p.size≤1048576) (hown:w.ownsMap Tryz.prog 9 MapN.elem B N D) (h1:D.atKey (MapN.key p) (MapN.dat ⟨⟨#[]⟩,0,⟨#[]⟩,0,0⟩)=MapN.dat m) (t:Bool) (h2:Maps.has D (MapN.key p)=t):
  Calls Tryz.prog 132 #[.map (some B), .string p] w fun e w'=>e= .returned (.tuple #[m.val, .bool t])∧Below w.heap.size w w':=by
 have hkey:=MapN.keyOf_mk (p:=p) (by unfold maxLen;omega);have HM:=hide (zk2.zk8 hown ((Below.refl _ _).alloc (Nat.le_refl _) (.cells #[.string ⟨#[]⟩, .int .i64 0, .string ⟨#[]⟩, .int .i64 0, .int .i64 0] 42)));have ha:=hide h1;have ha2:=hide h2;clear h1 h2 hown;obtain ⟨mp,mk,md,mt,mm⟩:=m;go_enter Tryz.func132,Tryz.ntmps132
 go_wp2_with (at_lookup;refine MapN.look_ok _ rfl _ _ 57 rfl 9 42 MapN.law Tryz.underlying57 (MapN.za3 _) B N D rfl (za HM) _ _ rfl hkey ⟨mp,mk,md,mt,mm⟩ (za ha) t (za ha2) ?_)
 refine bodyPost_ret (v:= .tuple #[.agg #[.string mp, .int .i64 mk, .string md, .int .i64 mt, .int .i64 mm], .bool t]) (by simp [results,Tryz.results132,go_sem]) rfl ⟨rfl,?_⟩
 repeat first |exact Below.refl _ _|refine Below.setCell ?_ (by simp) _|refine Below.alloc ?_ (by simp) _
end zf5
end Go.Proofs.YtpggbphcbcogdaaGreatDoor
