import Derived.Test.YthdhhcgopfgcbaaGreatDoorG00
namespace Go.Proofs.YthdhhcgopfgcbaaGreatDoor
open Go.RowKit
namespace Pl
theorem under_root {p t:ByteArray} (h:by_ t=[]):under p t=true:=(zv0 p t).2 (.inl h)
theorem yl0 (p:ByteArray):under p p=true:=(zv0 p p).2 (.inr (.inl rfl))
theorem under_short {p t:ByteArray} (h0:by_ t≠[]) (h1:p≠t) (h:¬t.size<p.size):under p t=false:=by
 rw [Bool.eq_false_iff];intro h2
 rcases (zv0 p t).1 h2 with h3|h3|⟨r,h3⟩
 ·exact h0 h3
 ·exact h1 (zi3 h3)
 ·have :=congrArg List.length h3;rw [zh6,List.length_append,List.length_cons,zh6] at this;omega
theorem by_pre (p t:ByteArray):by_ (p.extract 0 t.size)=(by_ p).take t.size:=by rw [zs8];simp
theorem under_other {p t:ByteArray} (h0:by_ t≠[]) (h1:p≠t) (h:p.extract 0 t.size≠t):under p t=false:=by
 rw [Bool.eq_false_iff];intro h2
 rcases (zv0 p t).1 h2 with h3|h3|⟨r,h3⟩
 ·exact h0 h3
 ·exact h1 (zi3 h3)
 ·apply h;apply zi3;rw [by_pre,h3,←zh6,List.take_left]
theorem pre_split {p t:ByteArray} (hl:t.size<p.size) (h:p.extract 0 t.size=t):by_ p=by_ t++p[t.size]::(by_ p).drop (t.size+1):=by
 have h1:by_ t=(by_ p).take t.size:=by rw [←by_pre,h]
 have h2:t.size<(by_ p).length:=by rw [zh6];exact hl
 have h3:(by_ p).drop t.size=p[t.size]::(by_ p).drop (t.size+1):=by rw [List.drop_eq_getElem_cons h2];rfl
 exact (List.take_append_drop t.size (by_ p)).symm.trans (by rw [h3,←h1];rfl)
theorem under_yes {p t:ByteArray} (hl:t.size<p.size) (h:p.extract 0 t.size=t) (hb:p[t.size].toNat=47):under p t=true:=by
 refine (zv0 p t).2 (.inr (.inr ⟨(by_ p).drop (t.size+1),?_⟩));have hb':p[t.size]=47:=UInt8.toNat_inj.1 hb;rw [←hb'];exact pre_split hl h
theorem under_no {p t:ByteArray} (h0:by_ t≠[]) (h1:p≠t) (hl:t.size<p.size) (h:p.extract 0 t.size=t) (hb:p[t.size].toNat≠47):under p t=false:=by
 rw [Bool.eq_false_iff];intro h2
 rcases (zv0 p t).1 h2 with h3|h3|⟨r,h3⟩
 ·exact h0 h3
 ·exact h1 (zi3 h3)
 ·rw [pre_split hl h] at h3;have :=List.append_cancel_left h3;simp at this
  exact hb (by rw [this.1];rfl)
end Pl
namespace zg9
set_option maxRecDepth 100000 in
set_option maxHeartbeats 400000 in
theorem yn7 (p t:ByteArray) (w:World) (ht:t.size≤1048576):
  Calls Tryz.prog 71 #[.string p, .string t] w fun e w'=>e= .returned (.bool (Pl.under p t))∧w'=w:=by
 by_cases h0:Pl.by_ t=[]
 ·have E:=hide (Pl.under_root (p:=p) h0);have d1:t.toList.isEmpty=true:=by rw [Pl.zd2];simp [h0]
  clear h0;go_enter Tryz.func71,Tryz.ntmps71
  go_wp2
  go_ret
  exact ⟨za3 (za E).symm,rfl⟩
 have d1:t.toList.isEmpty=false:=by rw [Pl.zd2];simp [h0]
 by_cases h1:p=t
 ·subst h1;have E:=hide (Pl.yl0 p);clear h0;go_enter Tryz.func71,Tryz.ntmps71
  go_wp2
  go_ret
  exact ⟨za3 (za E).symm,rfl⟩
 have d2:=Pl.zq1 h1;by_cases hl:t.size<p.size
 ·have k1:(t.size:Int)<(p.size:Int):=by omega
  have k2:(t.size:Int)≤(p.size:Int):=by omega
  have k3:(0:Int)≤(t.size:Int):=by omega
  by_cases h3:p.extract 0 t.size=t
  ·have d3:=Pl.zu0 h3;by_cases h4:p[t.size].toNat=47
   ·have E:=hide (Pl.under_yes hl h3 h4);have d4:((p[t.size].toNat:Int)==47)=true:=by rw [beq_iff_eq];omega
    clear h0 h1 h3 h4;go_enter Tryz.func71,Tryz.ntmps71
    go_wp2
    go_ret
    exact ⟨za3 (za E).symm,rfl⟩
   ·have E:=hide (Pl.under_no h0 h1 hl h3 h4);have d4:((p[t.size].toNat:Int)==47)=false:=by rw [beq_eq_false_iff_ne];omega
    clear h0 h1 h3 h4;go_enter Tryz.func71,Tryz.ntmps71
    go_wp2
    go_ret
    exact ⟨za3 (za E).symm,rfl⟩
  ·have E:=hide (Pl.under_other h0 h1 h3);have d3:=Pl.zq1 h3;clear h0 h1 h3;go_enter Tryz.func71,Tryz.ntmps71
   go_wp2
   go_ret
   exact ⟨za3 (za E).symm,rfl⟩
 ·have E:=hide (Pl.under_short h0 h1 hl);have k1:¬ (t.size:Int)<(p.size:Int):=by omega
  clear h0 h1;go_enter Tryz.func71,Tryz.ntmps71
  go_wp2
  go_ret
  exact ⟨za3 (za E).symm,rfl⟩
end zg9
end Go.Proofs.YthdhhcgopfgcbaaGreatDoor
