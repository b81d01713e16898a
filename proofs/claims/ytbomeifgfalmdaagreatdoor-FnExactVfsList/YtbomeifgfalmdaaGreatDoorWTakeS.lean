import Derived.Test.YtbomeifgfalmdaaGreatDoorG02
import Derived.WalkSpells
namespace Go.Proofs.YtbomeifgfalmdaaGreatDoor
open Go.RowKit
namespace zi3
theorem set_have (t:Bool) (n:Pl.Nd) (hv:List Bool) (k:Nat) (x:Bool):(Pl.Sg.cs ⟨t,n,hv⟩).toArray.setIfInBounds (6+k) (.bool x)=(Pl.Sg.cs ⟨t,n,hv.set k x⟩).toArray:=by
 rw [List.setIfInBounds_toArray];unfold Pl.Sg.cs;rw [List.set_append_right _ _ (by simp)];simp [List.map_set]
theorem set_mark (t:Bool) (n:Pl.Nd) (hv:List Bool) (m:Int):(Pl.Sg.cs ⟨t,n,hv⟩).toArray.setIfInBounds 5 (.int .i64 m)=(Pl.Sg.cs ⟨t,⟨n.path,n.kind,n.data,n.time,m⟩,hv⟩).toArray:=by
 rw [List.setIfInBounds_toArray];rfl
theorem set_node (n:Pl.Nd) (hv:List Bool) (u:Bool) (m:Pl.Nd):((((((Pl.Sg.cs ⟨u,m,hv⟩).toArray.setIfInBounds 0 (.bool true)).setIfInBounds 1 (.string n.path)).setIfInBounds 2 (.int .i64 n.kind)).setIfInBounds 3 (.string n.data)).setIfInBounds 4 (.int .i64 n.time)).setIfInBounds 5 (.int .i64 n.mark)=(Pl.Sg.cs ⟨true,n,hv⟩).toArray:=by
 simp only [kB3];rfl
theorem yl1 (w:World) (b:Nat):w.grownBy w (some b):=⟨rfl,rfl,rfl,Nat.le_refl _,fun _ _ _=>rfl⟩
theorem za2 {w v:World} {g:Nat} (h:w.grownBy v (some g)) (o:Nat) (x:Value):w.grownBy (v.setCell ⟨g,o,none⟩ x) (some g):=
 ⟨h.os,h.tape,h.output,Nat.le_trans h.size (by simp [World.setCell]),fun j hj hne=>(Below.heap_setCell _ _ _ _ (by intro e;exact hne (by rw [e]))).trans (h.block j hj hne)⟩
theorem yh7 {w w':World} {b:Nat} (h:w.grownBy w' (some b)) (o:Obj):w.grownBy (w'.alloc o) (some b):=
 Mem.grown_trans h (Mem.za4 ((Below.refl _ _).alloc (Nat.le_refl _) o) (some b))
set_option linter.unusedSimpArgs false in
set_option maxRecDepth 100000 in
set_option maxHeartbeats 2000000 in
theorem take_any (b k:Nat) (s:Pl.Sg) (n:Pl.Nd) (w:World) (hk:k<4) (hh:s.have'.length=4) (hb:Mem.Blk w b s.cs.toArray 251):
  Calls Tryz.prog 162 #[.pointer (some ⟨b,0,none⟩), .int .i64 k,n.val] w fun e w'=>e= .returned (.bool (Pl.zh2 n))∧Mem.Blk w' b (Pl.zd6 s k n).cs.toArray 251∧w.grownBy w' (some b):=by
 obtain ⟨told,⟨sp,sk,sd,st,sm⟩,hv⟩:=s;obtain ⟨np,nk,nd,nt,nm⟩:=n
 obtain ⟨h0,h1,h2,h3,rfl⟩:∃h0 h1 h2 h3,hv=[h0,h1,h2,h3]:=by
  match hv,hh with
  | [a,b,c,d],_=>exact ⟨a,b,c,d,rfl⟩
 have hix:0≤(k:Int)∧(k:Int)<4:=by omega
 simp only [Pl.Nd.val];have hbl:=hb.lt;have V:=hb.alloc (.cells #[.string np, .int .i64 nk, .string nd, .int .i64 nt, .int .i64 nm] 55);have N:=Mem.Blk.new w #[.string np, .int .i64 nk, .string nd, .int .i64 nt, .int .i64 nm] 55;have c0:=hb.cell 0;have c1:=hb.cell 1;have c2:=hb.cell 2;have c3:=hb.cell 3;have c4:=hb.cell 4;have c5:=hb.cell 5;have f0:=hb.fr 0;have f1:=hb.fr 1;have f2:=hb.fr 2;have f3:=hb.fr 3;have f4:=hb.fr 4;have f5:=hb.fr 5;have fk:=hb.fr (6+k)
 obtain ⟨x,ck⟩:∃x,w.cell? ⟨b,6+k,none⟩=some (.bool x):=by
  rw [hb.cell (6+k)];obtain rfl |rfl |rfl |rfl:k=0∨k=1∨k=2∨k=3:=by omega
  all_goals exact ⟨_,rfl⟩
 simp only [Pl.Sg.cs,List.map_cons,List.map_nil,List.cons_append,List.nil_append,kGs] at c0 c1 c2 c3 c4 c5
 have hN:∀ (t:Bool) (x:Bool) (M:Int),Mem.Blk (((w.setCell ⟨b,5,none⟩ (.int .i64 M)).setCell ⟨b,6+k,none⟩ (.bool x)).alloc (.cells #[.string np, .int .i64 nk, .string nd, .int .i64 nt, .int .i64 nm] 55)).drew.drew b (Pl.Sg.cs ⟨told,⟨sp,sk,sd,st,M⟩,[h0,h1,h2,h3].set k x⟩).toArray 251∧w.grownBy (((w.setCell ⟨b,5,none⟩ (.int .i64 M)).setCell ⟨b,6+k,none⟩ (.bool x)).alloc (.cells #[.string np, .int .i64 nk, .string nd, .int .i64 nt, .int .i64 nm] 55)).drew.drew (some b):=by
  intro t x M;have h1:=((hb.put 5 (.int .i64 M)).put (6+k) (.bool x)).alloc (.cells #[.string np, .int .i64 nk, .string nd, .int .i64 nt, .int .i64 nm] 55);rw [set_mark,set_have] at h1;have h2:=yh7 (za2 (za2 (yl1 w b) 5 (.int .i64 M)) (6+k) (.bool x)) (.cells #[.string np, .int .i64 nk, .string nd, .int .i64 nt, .int .i64 nm] 55);exact ⟨h1,⟨h2.os,h2.tape,h2.output,h2.size,h2.block⟩⟩
 cases told
 ·clear hN
  have V2:Mem.Blk (((((((((w.setCell ⟨b,0,none⟩ (.bool true)).setCell ⟨b,1,none⟩ (.string np)).setCell ⟨b,2,none⟩ (.int .i64 nk)).setCell ⟨b,3,none⟩ (.string nd)).setCell ⟨b,4,none⟩ (.int .i64 nt)).setCell ⟨b,5,none⟩ (.int .i64 nm)).alloc (.cells #[.string np, .int .i64 nk, .string nd, .int .i64 nt, .int .i64 nm] 55))).drew) b (Pl.Sg.cs ⟨true,⟨np,nk,nd,nt,nm⟩,[h0,h1,h2,h3]⟩).toArray 251:=by
   have h:=((((((hb.put 0 (.bool true)).put 1 (.string np)).put 2 (.int .i64 nk)).put 3 (.string nd)).put 4 (.int .i64 nt)).put 5 (.int .i64 nm)).alloc (.cells #[.string np, .int .i64 nk, .string nd, .int .i64 nt, .int .i64 nm] 55);rw [set_node ⟨np,nk,nd,nt,nm⟩] at h;exact h
  have hsz:(((((((((w.setCell ⟨b,0,none⟩ (.bool true)).setCell ⟨b,1,none⟩ (.string np)).setCell ⟨b,2,none⟩ (.int .i64 nk)).setCell ⟨b,3,none⟩ (.string nd)).setCell ⟨b,4,none⟩ (.int .i64 nt)).setCell ⟨b,5,none⟩ (.int .i64 nm)).alloc (.cells #[.string np, .int .i64 nk, .string nd, .int .i64 nt, .int .i64 nm] 55))).drew).heap.size=w.heap.size+1:=by simp
  have N2:Mem.Blk (((((((((w.setCell ⟨b,0,none⟩ (.bool true)).setCell ⟨b,1,none⟩ (.string np)).setCell ⟨b,2,none⟩ (.int .i64 nk)).setCell ⟨b,3,none⟩ (.string nd)).setCell ⟨b,4,none⟩ (.int .i64 nt)).setCell ⟨b,5,none⟩ (.int .i64 nm)).alloc (.cells #[.string np, .int .i64 nk, .string nd, .int .i64 nt, .int .i64 nm] 55))).drew) w.heap.size #[.string np, .int .i64 nk, .string nd, .int .i64 nt, .int .i64 nm] 55:=by
   have h:=Mem.Blk.new ((((((w.setCell ⟨b,0,none⟩ (.bool true)).setCell ⟨b,1,none⟩ (.string np)).setCell ⟨b,2,none⟩ (.int .i64 nk)).setCell ⟨b,3,none⟩ (.string nd)).setCell ⟨b,4,none⟩ (.int .i64 nt)).setCell ⟨b,5,none⟩ (.int .i64 nm)) #[.string np, .int .i64 nk, .string nd, .int .i64 nt, .int .i64 nm] 55;simp only [World.size_setCell] at h;exact h
  have G2:w.grownBy (((((((((w.setCell ⟨b,0,none⟩ (.bool true)).setCell ⟨b,1,none⟩ (.string np)).setCell ⟨b,2,none⟩ (.int .i64 nk)).setCell ⟨b,3,none⟩ (.string nd)).setCell ⟨b,4,none⟩ (.int .i64 nt)).setCell ⟨b,5,none⟩ (.int .i64 nm)).alloc (.cells #[.string np, .int .i64 nk, .string nd, .int .i64 nt, .int .i64 nm] 55))).drew) (some b):=by
   have h:=yh7 (za2 (za2 (za2 (za2 (za2 (za2 (yl1 w b) 0 (.bool true)) 1 (.string np)) 2 (.int .i64 nk)) 3 (.string nd)) 4 (.int .i64 nt)) 5 (.int .i64 nm)) (.cells #[.string np, .int .i64 nk, .string nd, .int .i64 nt, .int .i64 nm] 55);exact ⟨h.os,h.tape,h.output,h.size,h.block⟩
  have hM:max nm nm=nm:=by omega
  have hmx:¬nm<nm:=by omega
  go_enter Tryz.func162,Tryz.ntmps162
  go_wp2
  go_region
  go_wp2
  generalize (((((((((w.setCell ⟨b,0,none⟩ (.bool true)).setCell ⟨b,1,none⟩ (.string np)).setCell ⟨b,2,none⟩ (.int .i64 nk)).setCell ⟨b,3,none⟩ (.string nd)).setCell ⟨b,4,none⟩ (.int .i64 nt)).setCell ⟨b,5,none⟩ (.int .i64 nm)).alloc (.cells #[.string np, .int .i64 nk, .string nd, .int .i64 nt, .int .i64 nm] 55))).drew)=w2 at V2 N2 G2 hsz ⊢
  have HN:Hid (∀x:Bool,Mem.Blk ((w2.setCell ⟨b,5,none⟩ (.int .i64 nm)).setCell ⟨b,6+k,none⟩ (.bool x)).drew.drew b (Pl.Sg.cs ⟨true,⟨np,nk,nd,nt,nm⟩,[h0,h1,h2,h3].set k x⟩).toArray 251∧w.grownBy ((w2.setCell ⟨b,5,none⟩ (.int .i64 nm)).setCell ⟨b,6+k,none⟩ (.bool x)).drew.drew (some b)):=by
   intro x;have h1:=(V2.put 5 (.int .i64 nm)).put (6+k) (.bool x);rw [set_mark,set_have] at h1;have h2:=za2 (za2 G2 5 (.int .i64 nm)) (6+k) (.bool x);exact ⟨h1,⟨h2.os,h2.tape,h2.output,h2.size,h2.block⟩⟩
  have c5:=V2.cell 5;have f5:=V2.fr 5;have fk:=V2.fr (6+k);have n1:=N2.cell 1;have n4:=N2.cell 4
  obtain ⟨x,ck⟩:∃x,w2.cell? ⟨b,6+k,none⟩=some (.bool x):=by
   rw [V2.cell (6+k)];obtain rfl |rfl |rfl |rfl:k=0∨k=1∨k=2∨k=3:=by omega
   all_goals exact ⟨_,rfl⟩
  simp only [Pl.Sg.cs,List.map_cons,List.map_nil,List.cons_append,List.nil_append,kGs] at c5 n1 n4;clear V2 N2 G2 hb V N c0 c1 c2 c3 c4;have hne:¬w.heap.size=b:=by omega
  by_cases hn:nk=1
  ·subst hn;go_region
   go_wp2
   go_region
   go_wp2
   go_ret
   exact ⟨by simp [Pl.zh2],by simp only [Pl.zd6,Pl.zi5,Bool.false_eq_true,if_false,hM,decide_true];exact (za HN true).1,(za HN true).2⟩
  ·have t1:(nk==1)=false:=by simpa using hn
   have t2:(nk !=1)=true:=by simpa using hn
   have t3:decide (nk=1)=false:=by simpa using hn
   go_region
   go_wp2
   go_region
   go_wp2
   go_ret
   exact ⟨by simp [Pl.zh2,hn],by simp only [Pl.zd6,Pl.zi5,Bool.false_eq_true,if_false,hM,t3];exact (za HN false).1,(za HN false).2⟩
 ·have HN:=hide hN;clear hN V N hb;by_cases hmx:sm<nm
  ·have hM:max sm nm=nm:=by omega
   by_cases hn:nk=1
   ·subst hn;go_enter Tryz.func162,Tryz.ntmps162
    go_wp2
    go_region
    go_wp2
    go_region
    go_wp2
    go_ret
    exact ⟨by simp [Pl.zh2],by simp only [Pl.zd6,Pl.zi5,if_true,hM,decide_true];exact (za HN true true nm).1,(za HN true true nm).2⟩
   ·have t1:(nk==1)=false:=by simpa using hn
    have t2:(nk !=1)=true:=by simpa using hn
    have t3:decide (nk=1)=false:=by simpa using hn
    go_enter Tryz.func162,Tryz.ntmps162
    go_wp2
    go_region
    go_wp2
    go_region
    go_wp2
    go_ret
    exact ⟨by simp [Pl.zh2,hn],by simp only [Pl.zd6,Pl.zi5,if_true,hM,t3];exact (za HN true false nm).1,(za HN true false nm).2⟩
  ·have hM:max sm nm=sm:=by omega
   by_cases hn:nk=1
   ·subst hn;go_enter Tryz.func162,Tryz.ntmps162
    go_wp2
    go_region
    go_wp2
    go_region
    go_wp2
    go_ret
    exact ⟨by simp [Pl.zh2],by simp only [Pl.zd6,Pl.zi5,if_true,hM,decide_true];exact (za HN true true sm).1,(za HN true true sm).2⟩
   ·have t1:(nk==1)=false:=by simpa using hn
    have t2:(nk !=1)=true:=by simpa using hn
    have t3:decide (nk=1)=false:=by simpa using hn
    go_enter Tryz.func162,Tryz.ntmps162
    go_wp2
    go_region
    go_wp2
    go_region
    go_wp2
    go_ret
    exact ⟨by simp [Pl.zh2,hn],by simp only [Pl.zd6,Pl.zi5,if_true,hM,t3];exact (za HN true false sm).1,(za HN true false sm).2⟩
end zi3
end Go.Proofs.YtbomeifgfalmdaaGreatDoor
