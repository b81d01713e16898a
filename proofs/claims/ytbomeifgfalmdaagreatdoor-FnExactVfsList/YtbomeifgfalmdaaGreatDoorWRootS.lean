import Derived.Test.YtbomeifgfalmdaaGreatDoorWTakeS
namespace Go.Proofs.YtbomeifgfalmdaaGreatDoor
open Go.RowKit
namespace Pl
def partsR (n:Nat):List Bool:=[decide (0<n),decide (1<n),decide (2<n),decide (3<n)]
def ze9 (n:Nat):Sg:=⟨false,za3,partsR n⟩
theorem parts_set {k:Nat} (h:k<4):(partsR k).set k true=partsR (k+1):=by
 obtain rfl |rfl |rfl |rfl:k=0∨k=1∨k=2∨k=3:=by omega
 all_goals rfl
end Pl
namespace zi3
set_option maxRecDepth 100000 in
theorem dec_make (a:Option Addr) (n cap:Nat) (w:World):Calls Tryz.prog 142 #[.slice a n cap] w fun e w'=>e= .returned (.func (.func 161) #[] #[.pointer (some ⟨w.heap.size,0,none⟩)])∧w'=w.alloc (.cells #[.slice a n cap] 244):=by
 have hmf:∀ (fn:Fn) (first cap:Array Value) (w:World),(Instr.makeFunc fn first cap).run Tryz.prog w= .ok (.func fn first cap) w:=fun _ _ _ _=>rfl;go_enter Tryz.func142,Tryz.ntmps142
 go_wp2
 go_ret
 exact ⟨rfl,rfl⟩
set_option linter.unusedSimpArgs false in
set_option maxRecDepth 100000 in
set_option maxHeartbeats 2000000 in
theorem root_any (a:Option Addr) (n cap:Nat) (w:World) (hn:n≤4):
  Calls Tryz.prog 143 #[.slice a n cap] w fun e w'=>e= .returned (.agg (Pl.ze9 n).cs.toArray)∧Below w.heap.size w w':=by
 have b0:Below w.heap.size w ((w.alloc (.cells Pl.Sg.zero.cs.toArray 251)).alloc (.cells Pl.Sg.zero.cs.toArray 251)):=((Below.refl _ _).alloc (Nat.le_refl _) _).alloc (by simp) _;have A0:Hid (Below w.heap.size w ((w.alloc (.cells Pl.Sg.zero.cs.toArray 251)).alloc (.cells Pl.Sg.zero.cs.toArray 251))∧Mem.Blk ((w.alloc (.cells Pl.Sg.zero.cs.toArray 251)).alloc (.cells Pl.Sg.zero.cs.toArray 251)) w.heap.size Pl.Sg.zero.cs.toArray 251∧Mem.Blk ((w.alloc (.cells Pl.Sg.zero.cs.toArray 251)).alloc (.cells Pl.Sg.zero.cs.toArray 251)) (w.heap.size+1) (Pl.ze9 0).cs.toArray 251):=⟨b0,(Mem.Blk.new _ _ _).alloc _,Mem.zh9 _ _ _⟩;simp only [Pl.Sg.zero,Pl.za3,Pl.Sg.cs,List.map_cons,List.map_nil,List.cons_append,List.nil_append] at A0;have hR:w.heap.size≤w.heap.size:=Nat.le_refl _;clear b0
 go_enter Tryz.func143,Tryz.ntmps143
 go_wp2
 go_loopw [7] (fun i wr=>∃k:Nat,k≤n∧i= .int .i64 (k:Int)∧Hid (Below w.heap.size w wr∧Mem.Blk wr w.heap.size Pl.Sg.zero.cs.toArray 251∧Mem.Blk wr (w.heap.size+1) (Pl.ze9 k).cs.toArray 251)) (fun i _=>n - (intOf i).toNat)
 case atStart=>exact ⟨0,Nat.zero_le _,rfl,A0⟩
 case round=>
  obtain ⟨k,hk,rfl,HA⟩:=hrel;clear A0;by_cases hlt:k<n
  ·have y1:(k:Int)<(n:Int):=by omega
   have hix:0≤(k:Int)∧(k:Int)<4:=by omega
   have fk:=(za HA).2.2.fr (6+k)
   obtain ⟨x,ck⟩:∃x,wr.cell? ⟨w.heap.size+1,6+k,none⟩=some (.bool x):=by
    rw [(za HA).2.2.cell (6+k)];obtain rfl |rfl |rfl |rfl:k=0∨k=1∨k=2∨k=3:=by omega
    all_goals exact ⟨_,rfl⟩
   have A2:Hid (Below w.heap.size w (wr.setCell ⟨w.heap.size+1,6+k,none⟩ (.bool true))∧Mem.Blk (wr.setCell ⟨w.heap.size+1,6+k,none⟩ (.bool true)) w.heap.size Pl.Sg.zero.cs.toArray 251∧Mem.Blk (wr.setCell ⟨w.heap.size+1,6+k,none⟩ (.bool true)) (w.heap.size+1) (Pl.ze9 (k+1)).cs.toArray 251):=by
    refine ⟨(za HA).1.setCell (by show w.heap.size≤w.heap.size+1;omega) _,(za HA).2.1.far _ _ (by show w.heap.size≠w.heap.size+1;omega),?_⟩;have h:=(za HA).2.2.put (6+k) (.bool true);unfold Pl.ze9 at h;rw [set_have,Pl.parts_set (by omega)] at h;exact h
   clear HA;go_wp2
   go_roundw
   case rel=>exact ⟨k+1,by omega,by go_num,A2⟩
   case measure=>simp [intOf];omega
  ·obtain rfl:k=n:=by omega
   have y1:¬ ((k:Int)<(k:Int)):=by omega
   have R1:=(za HA).2.1;have S1:=(za HA).2.2;have BU:=(za HA).1;have ER:Hid (Pl.ze9 k=⟨false,Pl.za3,[decide (0<k),decide (1<k),decide (2<k),decide (3<k)]⟩):=rfl;generalize decide (0<k)=g0 at ER;generalize decide (1<k)=g1 at ER;generalize decide (2<k)=g2 at ER;generalize decide (3<k)=g3 at ER;rw [za ER] at S1;have c0:=R1.cell 0;have f0:=R1.fr 0;have d0:=S1.cell 0;have c1:=R1.cell 1;have f1:=R1.fr 1;have d1:=S1.cell 1;have c2:=R1.cell 2;have f2:=R1.fr 2;have d2:=S1.cell 2;have c3:=R1.cell 3;have f3:=R1.fr 3;have d3:=S1.cell 3;have c4:=R1.cell 4;have f4:=R1.fr 4;have d4:=S1.cell 4;have c5:=R1.cell 5;have f5:=R1.fr 5;have d5:=S1.cell 5;have c6:=R1.cell 6;have f6:=R1.fr 6;have d6:=S1.cell 6;have c7:=R1.cell 7;have f7:=R1.fr 7;have d7:=S1.cell 7;have c8:=R1.cell 8;have f8:=R1.fr 8;have d8:=S1.cell 8;have c9:=R1.cell 9;have f9:=R1.fr 9;have d9:=S1.cell 9
   simp only [Pl.Sg.zero,Pl.za3,Pl.Sg.cs,List.map_cons,List.map_nil,List.cons_append,List.nil_append,kGs] at c0 c1 c2 c3 c4 c5 c6 c7 c8 c9 d0 d1 d2 d3 d4 d5 d6 d7 d8 d9;clear R1 S1 HA;go_wp2
   refine bodyPost_ret (v:= .agg #[.bool false, .string ⟨#[]⟩, .int .i64 0, .string ⟨#[]⟩, .int .i64 0, .int .i64 0, .bool g0, .bool g1, .bool g2, .bool g3]) (by simp [results,Tryz.results143,go_sem,c0,c1,c2,c3,c4,c5,c6,c7,c8,c9]) rfl ⟨by rw [za ER];rfl,?_⟩;exact ((((((((((BU.setCell (p:=⟨w.heap.size,0,none⟩) hR _).setCell (p:=⟨w.heap.size,1,none⟩) hR _).setCell (p:=⟨w.heap.size,2,none⟩) hR _).setCell (p:=⟨w.heap.size,3,none⟩) hR _).setCell (p:=⟨w.heap.size,4,none⟩) hR _).setCell (p:=⟨w.heap.size,5,none⟩) hR _).setCell (p:=⟨w.heap.size,6,none⟩) hR _).setCell (p:=⟨w.heap.size,7,none⟩) hR _).setCell (p:=⟨w.heap.size,8,none⟩) hR _).setCell (p:=⟨w.heap.size,9,none⟩) hR _)
end zi3
end Go.Proofs.YtbomeifgfalmdaaGreatDoor
