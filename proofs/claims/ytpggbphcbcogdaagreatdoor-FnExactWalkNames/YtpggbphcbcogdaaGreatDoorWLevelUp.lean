import Derived.Test.YtpggbphcbcogdaaGreatDoorKit
import Derived.Test.YtpggbphcbcogdaaGreatDoorPlainSight
import Derived.Test.YtpggbphcbcogdaaGreatDoorMemOwnN
import Derived.Test.YtpggbphcbcogdaaGreatDoorMemBlk
import Derived.Test.YtpggbphcbcogdaaGreatDoorProg
import Derived.Maps.OwnSet
import Derived.WalkSpells
import Derived.Lib.OthersKept
import Derived.Laws.RangeAny
import Derived.Deep.Draws
import Derived.Deep.QuietTactic
import Derived.BigQuiet
import Derived.Deep.RegionHeld3
namespace Go.Proofs.YtpggbphcbcogdaaGreatDoor
open Go.RowKit Go.Maps
namespace zf5
set_option linter.unusedSimpArgs false in
set_option maxRecDepth 100000 in
set_option maxHeartbeats 2000000 in
theorem up_any (s:Pl.Sg) (w:World) (hh:s.have'.length=4) (hm:0≤s.node.mark∧s.node.mark≤1000):
  Calls Tryz.prog 93 #[.agg s.cs.toArray] w fun e w'=>e= .returned (.agg (Pl.upS s).cs.toArray)∧Below w.heap.size w w':=by
 obtain ⟨told,⟨sp,sk,sd,st,sm⟩,hv⟩:=s
 obtain ⟨h0,h1,h2,h3,rfl⟩:∃h0 h1 h2 h3,hv=[h0,h1,h2,h3]:=by
  match hv,hh with
  | [a,b,c,d],_=>exact ⟨a,b,c,d,rfl⟩
 simp only at hm;have hw:IntKind.i64.wrap (sm - 1)=sm - 1:=by simp only [IntKind.wrap_i64];omega
 generalize hU:Pl.upS ⟨told,⟨sp,sk,sd,st,sm⟩,[h0,h1,h2,h3]⟩=U;simp only [Pl.upS] at hU;rw [show (Pl.Sg.cs ⟨told,⟨sp,sk,sd,st,sm⟩,[h0,h1,h2,h3]⟩).toArray=#[.bool told, .string sp, .int .i64 sk, .string sd, .int .i64 st, .int .i64 sm, .bool h0, .bool h1, .bool h2, .bool h3] from rfl];by_cases h5:sm - 1<0
 ·have hM:max (sm - 1) 0=0:=by omega
  rw [hM] at hU;by_cases hk:sk=0
  ·subst hk;rw [if_pos ⟨rfl,rfl⟩] at hU;have EU:=hide hU.symm;clear hU;go_enter Tryz.func93,Tryz.ntmps93
   go_wp2
   refine bodyPost_ret (v:= .agg #[.bool false, .string ⟨#[]⟩, .int .i64 0, .string ⟨#[]⟩, .int .i64 0, .int .i64 0, .bool false, .bool false, .bool false, .bool false]) (by simp [results,Tryz.results93,go_sem]) rfl ⟨by rw [za EU];rfl,?_⟩
   repeat first |exact Below.refl _ _|refine Below.setCell ?_ (by simp) _|refine Below.alloc ?_ (by simp) _
  ·have t1:(sk==0)=false:=by simpa using hk
   rw [if_neg (fun h=>hk h.1)] at hU;have EU:=hide hU.symm;clear hU;go_enter Tryz.func93,Tryz.ntmps93
   go_wp2
   refine bodyPost_ret (v:= .agg #[.bool told, .string sp, .int .i64 sk, .string sd, .int .i64 st, .int .i64 (0), .bool h0, .bool h1, .bool h2, .bool h3]) (by simp [results,Tryz.results93,go_sem]) rfl ⟨by rw [za EU];rfl,?_⟩
   repeat first |exact Below.refl _ _|refine Below.setCell ?_ (by simp) _|refine Below.alloc ?_ (by simp) _
 ·have hM:max (sm - 1) 0=sm - 1:=by omega
  rw [hM] at hU;by_cases hk:sk=0
  ·subst hk;by_cases h6:sm=1
   ·subst h6;rw [if_pos ⟨rfl,by omega⟩] at hU;have EU:=hide hU.symm;clear hU;go_enter Tryz.func93,Tryz.ntmps93
    go_wp2
    refine bodyPost_ret (v:= .agg #[.bool false, .string ⟨#[]⟩, .int .i64 0, .string ⟨#[]⟩, .int .i64 0, .int .i64 0, .bool false, .bool false, .bool false, .bool false]) (by simp [results,Tryz.results93,go_sem]) rfl ⟨by rw [za EU];rfl,?_⟩
    repeat first |exact Below.refl _ _|refine Below.setCell ?_ (by simp) _|refine Below.alloc ?_ (by simp) _
   ·have t2:(sm - 1==0)=false:=by simp;omega
    rw [if_neg (fun h=>by omega)] at hU;have EU:=hide hU.symm;clear hU;go_enter Tryz.func93,Tryz.ntmps93
    go_wp2
    refine bodyPost_ret (v:= .agg #[.bool told, .string sp, .int .i64 0, .string sd, .int .i64 st, .int .i64 (sm - 1), .bool h0, .bool h1, .bool h2, .bool h3]) (by simp [results,Tryz.results93,go_sem]) rfl ⟨by rw [za EU];rfl,?_⟩
    repeat first |exact Below.refl _ _|refine Below.setCell ?_ (by simp) _|refine Below.alloc ?_ (by simp) _
  ·have t1:(sk==0)=false:=by simpa using hk
   rw [if_neg (fun h=>hk h.1)] at hU;have EU:=hide hU.symm;clear hU;go_enter Tryz.func93,Tryz.ntmps93
   go_wp2
   refine bodyPost_ret (v:= .agg #[.bool told, .string sp, .int .i64 sk, .string sd, .int .i64 st, .int .i64 (sm - 1), .bool h0, .bool h1, .bool h2, .bool h3]) (by simp [results,Tryz.results93,go_sem]) rfl ⟨by rw [za EU];rfl,?_⟩
   repeat first |exact Below.refl _ _|refine Below.setCell ?_ (by simp) _|refine Below.alloc ?_ (by simp) _
end zf5
end Go.Proofs.YtpggbphcbcogdaaGreatDoor
