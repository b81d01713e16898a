/- Several texts of one claim in one file: WRootS, MemTexts, WPathsTo. -/
import Derived.Test.YtpggbphcbcogdaaGreatDoorG05
import Derived.RangeFuncNested
import Derived.RangeFuncBound
import Derived.Shelf.RegionOpen
import Derived.OwnWalkIn
import Derived.LoopNIn
import Derived.LoopIn
namespace Go.Proofs.YtpggbphcbcogdaaGreatDoor
section
open Go.RowKit
namespace Pl
def partsR (n:Nat):List Bool:=[decide (0<n),decide (1<n),decide (2<n),decide (3<n)]
def zd2 (n:Nat):Sg:=⟨false,za3,partsR n⟩
theorem parts_set {k:Nat} (h:k<4):(partsR k).set k true=partsR (k+1):=by
 obtain rfl |rfl |rfl |rfl:k=0∨k=1∨k=2∨k=3:=by omega
 all_goals rfl
end Pl
namespace zf5
set_option maxRecDepth 100000 in
theorem dec_make (a:Option Addr) (n cap:Nat) (w:World):Calls Tryz.prog 77 #[.slice a n cap] w fun e w'=>e= .returned (.func (.func 91) #[] #[.pointer (some ⟨w.heap.size,0,none⟩)])∧w'=w.alloc (.cells #[.slice a n cap] 132):=by
 have hmf:∀ (fn:Fn) (first cap:Array Value) (w:World),(Instr.makeFunc fn first cap).run Tryz.prog w= .ok (.func fn first cap) w:=fun _ _ _ _=>rfl;go_enter Tryz.func77,Tryz.ntmps77
 go_wp2
 go_ret
 exact ⟨rfl,rfl⟩
set_option linter.unusedSimpArgs false in
set_option maxRecDepth 100000 in
set_option maxHeartbeats 2000000 in
theorem root_any (a:Option Addr) (n cap:Nat) (w:World) (hn:n≤4):
  Calls Tryz.prog 78 #[.slice a n cap] w fun e w'=>e= .returned (.agg (Pl.zd2 n).cs.toArray)∧Below w.heap.size w w':=by
 have b0:Below w.heap.size w ((w.alloc (.cells Pl.Sg.zero.cs.toArray 139)).alloc (.cells Pl.Sg.zero.cs.toArray 139)):=((Below.refl _ _).alloc (Nat.le_refl _) _).alloc (by simp) _;have A0:Hid (Below w.heap.size w ((w.alloc (.cells Pl.Sg.zero.cs.toArray 139)).alloc (.cells Pl.Sg.zero.cs.toArray 139))∧Mem.Blk ((w.alloc (.cells Pl.Sg.zero.cs.toArray 139)).alloc (.cells Pl.Sg.zero.cs.toArray 139)) w.heap.size Pl.Sg.zero.cs.toArray 139∧Mem.Blk ((w.alloc (.cells Pl.Sg.zero.cs.toArray 139)).alloc (.cells Pl.Sg.zero.cs.toArray 139)) (w.heap.size+1) (Pl.zd2 0).cs.toArray 139):=⟨b0,(Mem.Blk.new _ _ _).alloc _,Mem.zi9 _ _ _⟩;simp only [Pl.Sg.zero,Pl.za3,Pl.Sg.cs,List.map_cons,List.map_nil,List.cons_append,List.nil_append] at A0;have hR:w.heap.size≤w.heap.size:=Nat.le_refl _;clear b0
 go_enter Tryz.func78,Tryz.ntmps78
 go_wp2
 go_loopw [7] (fun i wr=>∃k:Nat,k≤n∧i= .int .i64 (k:Int)∧Hid (Below w.heap.size w wr∧Mem.Blk wr w.heap.size Pl.Sg.zero.cs.toArray 139∧Mem.Blk wr (w.heap.size+1) (Pl.zd2 k).cs.toArray 139)) (fun i _=>n - (intOf i).toNat)
 case atStart=>exact ⟨0,Nat.zero_le _,rfl,A0⟩
 case round=>
  obtain ⟨k,hk,rfl,HA⟩:=hrel;clear A0;by_cases hlt:k<n
  ·have y1:(k:Int)<(n:Int):=by omega
   have hix:0≤(k:Int)∧(k:Int)<4:=by omega
   have fk:=(za HA).2.2.fr (6+k)
   obtain ⟨x,ck⟩:∃x,wr.cell? ⟨w.heap.size+1,6+k,none⟩=some (.bool x):=by
    rw [(za HA).2.2.cell (6+k)];obtain rfl |rfl |rfl |rfl:k=0∨k=1∨k=2∨k=3:=by omega
    all_goals exact ⟨_,rfl⟩
   have A2:Hid (Below w.heap.size w (wr.setCell ⟨w.heap.size+1,6+k,none⟩ (.bool true))∧Mem.Blk (wr.setCell ⟨w.heap.size+1,6+k,none⟩ (.bool true)) w.heap.size Pl.Sg.zero.cs.toArray 139∧Mem.Blk (wr.setCell ⟨w.heap.size+1,6+k,none⟩ (.bool true)) (w.heap.size+1) (Pl.zd2 (k+1)).cs.toArray 139):=by
    refine ⟨(za HA).1.setCell (by show w.heap.size≤w.heap.size+1;omega) _,(za HA).2.1.far _ _ (by show w.heap.size≠w.heap.size+1;omega),?_⟩;have h:=(za HA).2.2.put (6+k) (.bool true);unfold Pl.zd2 at h;rw [set_have,Pl.parts_set (by omega)] at h;exact h
   clear HA;go_wp2
   go_roundw
   case rel=>exact ⟨k+1,by omega,by go_num,A2⟩
   case measure=>simp [intOf];omega
  ·obtain rfl:k=n:=by omega
   have y1:¬ ((k:Int)<(k:Int)):=by omega
   have R1:=(za HA).2.1;have S1:=(za HA).2.2;have BU:=(za HA).1;have ER:Hid (Pl.zd2 k=⟨false,Pl.za3,[decide (0<k),decide (1<k),decide (2<k),decide (3<k)]⟩):=rfl;generalize decide (0<k)=g0 at ER;generalize decide (1<k)=g1 at ER;generalize decide (2<k)=g2 at ER;generalize decide (3<k)=g3 at ER;rw [za ER] at S1;have c0:=R1.cell 0;have f0:=R1.fr 0;have d0:=S1.cell 0;have c1:=R1.cell 1;have f1:=R1.fr 1;have d1:=S1.cell 1;have c2:=R1.cell 2;have f2:=R1.fr 2;have d2:=S1.cell 2;have c3:=R1.cell 3;have f3:=R1.fr 3;have d3:=S1.cell 3;have c4:=R1.cell 4;have f4:=R1.fr 4;have d4:=S1.cell 4;have c5:=R1.cell 5;have f5:=R1.fr 5;have d5:=S1.cell 5;have c6:=R1.cell 6;have f6:=R1.fr 6;have d6:=S1.cell 6;have c7:=R1.cell 7;have f7:=R1.fr 7;have d7:=S1.cell 7;have c8:=R1.cell 8;have f8:=R1.fr 8;have d8:=S1.cell 8;have c9:=R1.cell 9;have f9:=R1.fr 9;have d9:=S1.cell 9
   simp only [Pl.Sg.zero,Pl.za3,Pl.Sg.cs,List.map_cons,List.map_nil,List.cons_append,List.nil_append,kGs] at c0 c1 c2 c3 c4 c5 c6 c7 c8 c9 d0 d1 d2 d3 d4 d5 d6 d7 d8 d9;clear R1 S1 HA;go_wp2
   refine bodyPost_ret (v:= .agg #[.bool false, .string ⟨#[]⟩, .int .i64 0, .string ⟨#[]⟩, .int .i64 0, .int .i64 0, .bool g0, .bool g1, .bool g2, .bool g3]) (by simp [results,Tryz.results78,go_sem,c0,c1,c2,c3,c4,c5,c6,c7,c8,c9]) rfl ⟨by rw [za ER];rfl,?_⟩;exact ((((((((((BU.setCell (p:=⟨w.heap.size,0,none⟩) hR _).setCell (p:=⟨w.heap.size,1,none⟩) hR _).setCell (p:=⟨w.heap.size,2,none⟩) hR _).setCell (p:=⟨w.heap.size,3,none⟩) hR _).setCell (p:=⟨w.heap.size,4,none⟩) hR _).setCell (p:=⟨w.heap.size,5,none⟩) hR _).setCell (p:=⟨w.heap.size,6,none⟩) hR _).setCell (p:=⟨w.heap.size,7,none⟩) hR _).setCell (p:=⟨w.heap.size,8,none⟩) hR _).setCell (p:=⟨w.heap.size,9,none⟩) hR _)
end zf5
end
section
open Go.RowKit
namespace Mem
theorem texts {w:World} {B T:Nat} {v:Value} {L:List ByteArray} (h:w.ownsRow B T 1 v L.length (L.map Value.string)):
  (v= .slice none 0 0∧L=[])∨∃g cap,v= .slice (some ⟨g,0,none⟩) L.length cap∧L.length≤cap∧cap≤maxLen∧B≤g∧g<w.heap.size∧∀ (k:Nat) t,L[k]? =some t→w.cell? ⟨g,k,none⟩=some (.string t):=by
 rcases h.2 with ⟨rfl,h0⟩|⟨g,cap,cur,rfl,hgb,hg,hcap,hm,hsz,htk⟩
 ·exact .inl ⟨rfl,List.eq_nil_of_length_eq_zero h0⟩
 ·refine .inr ⟨g,cap,rfl,hcap,hm,hgb,(Array.getElem?_eq_some_iff.1 hg).1,fun k t ht=>?_⟩;have hk:=(List.getElem?_eq_some_iff.1 ht).1;rw [cell_of_row w g k cur T (0,0) hg];have h1:(cur.toList.take (L.length*1))[k]? =(L.map Value.string)[k]?:=by rw [htk]
  rw [List.getElem?_take_of_lt (by omega),List.getElem?_map,ht] at h1
  simpa using h1
theorem one_str (t:ByteArray):∀u∈[Value.string t],u.oneCell'=true:=by
 intro u hu;simp at hu;subst hu;rfl
def ze5 (w:World) (v:Value) (ts:List ByteArray):Prop:=
 (v= .slice none 0 0∧ts=[])∨∃b o cap,v= .slice (some ⟨b,o,none⟩) ts.length cap∧b<w.heap.size∧∀ (j:Nat) t,ts[j]? =some t→w.cell? ⟨b,o+j,none⟩=some (.string t)
theorem ze4 {w:World} {B T:Nat} {v:Value} {L:List ByteArray} (h:w.ownsRow B T 1 v L.length (L.map Value.string)):ze5 w v L:=by
 rcases texts h with h|⟨g,cap,h1,h2,h3,h4,h5,h6⟩
 ·exact .inl h
 ·exact .inr ⟨g,0,cap,h1,h5,fun j t ht=>by rw [Nat.zero_add];exact h6 j t ht⟩
theorem take_texts {w:World} {g cap:Nat} {L:List ByteArray} (hg:g<w.heap.size) (hc:∀ (k:Nat) t,L[k]? =some t→w.cell? ⟨g,k,none⟩=some (.string t)) (n:Nat) (hn:n≤L.length):
  ze5 w (.slice (some ⟨g,0,none⟩) n cap) (L.take n):=by
 refine .inr ⟨g,0,cap,by rw [List.length_take,Nat.min_eq_left hn],hg,fun j t ht=>?_⟩;rw [Nat.zero_add];refine hc j t ?_;have hj:j<n:=by have :=(List.getElem?_eq_some_iff.1 ht).1;rw [List.length_take] at this;omega
 rwa [List.getElem?_take_of_lt hj] at ht
theorem drop_texts {w:World} {g cap:Nat} {L:List ByteArray} (hg:g<w.heap.size) (hc:∀ (k:Nat) t,L[k]? =some t→w.cell? ⟨g,k,none⟩=some (.string t)) (n:Nat):
  ze5 w (.slice (some ⟨g,n,none⟩) (L.length - n) cap) (L.drop n):=by
 refine .inr ⟨g,n,cap,by rw [List.length_drop],hg,fun j t ht=>?_⟩;refine hc (n+j) t ?_
 rwa [List.getElem?_drop] at ht
theorem own_below {w w':World} {B B' e size n:Nat} {v:Value} {xs:List Value} (h:w.ownsRow B e size v n xs) (hb:Below B' w w') (hB:∀k,v.ownBlock=some k→k<B'):w'.ownsRow B e size v n xs:=by
 refine ⟨h.1,?_⟩
 rcases h.2 with h0|⟨g,cap,cur,rfl,hgb,hg,rest⟩
 ·exact .inl h0
 ·exact .inr ⟨g,cap,cur,rfl,hgb,(hb.block g (hB g rfl)).trans hg,rest⟩
theorem zc8 {w w':World} {B e size n:Nat} {v:Value} {xs:List Value} (h:w.ownsRow B e size v n xs) (hb:Below w.heap.size w w'):w'.ownsRow B e size v n xs:=
 own_below h hb (fun k hk=>(h.lt k hk).2)
theorem zl5 {w w':World} {v:Value} {ts:List ByteArray} (h:ze5 w v ts) (hb:Below w.heap.size w w'):ze5 w' v ts:=by
 rcases h with h|⟨b,o,cap,rfl,hlt,hc⟩
 ·exact .inl h
 ·exact .inr ⟨b,o,cap,rfl,Nat.lt_of_lt_of_le hlt hb.size,fun j t ht=>(hb.cell (p:=⟨b,o+j,none⟩) hlt).trans (hc j t ht)⟩
theorem below_drewN {B:Nat} {a w:World} (h:Below B a w) (q:Nat):Below B a (w.drewN q):=h.trans ⟨rfl,rfl,rfl,Nat.le_refl _,fun _ _=>rfl⟩
theorem zh0 {w:World} {v:Value} {ts:List ByteArray} (h:ze5 w v ts):∃a cap,v= .slice a ts.length cap:=by
 rcases h with ⟨rfl,rfl⟩|⟨b,o,cap,rfl,_⟩ <;> exact ⟨_,_,rfl⟩
theorem own_textsN {w:World} {B T n:Nat} {v:Value} {L:List ByteArray} (h:w.ownsRow B T 1 v n (L.map Value.string)) (hn:L.length=n):ze5 w v L:=by
 subst hn;exact ze4 h
end Mem
end
section
open Go.RowKit Go.Shelf
attribute [local go_sem] Oper.semAt_some
namespace Pl
def ways (L:List ByteArray) (k:Nat):List ByteArray:=(List.range k).map (fun i=>glue (L.take (i+1)))
theorem zt0 (L:List ByteArray) (k:Nat):ways L (k+1)=ways L k++[glue (L.take (k+1))]:=by simp [ways,List.range_succ]
theorem zi0 (L:List ByteArray) (k:Nat):(ways L k).length=k:=by simp [ways]
end Pl
namespace zj8
def KC (X:Nat) (W W':World):Prop:=W.heap.size≤W'.heap.size∧∀ (j:Nat) (o:Obj),j≠X→W.heap[j]? =some o→o.isCells=true→W'.heap[j]? =some o
theorem KC.trans {X:Nat} {A B C:World} (h1:KC X A B) (h2:KC X B C):KC X A C:=⟨Nat.le_trans h1.1 h2.1,fun j o hj ho hc=>h2.2 j o hj (h1.2 j o hj ho hc) hc⟩
theorem KC.put {X l:Nat} (W:World) (o o':Obj) (hl:W.heap[l]? =some o) (ho:o.isCells=false):KC X W (W.putObj l o'):=by
 refine ⟨by simp,fun j p _ hp hc=>?_⟩;have hne:j≠l:=fun e=>by rw [e,hl] at hp;cases hp;rw [ho] at hc;cases hc
 exact (World.putObj_heap_other hne).trans hp
end zj8
namespace Mem
theorem texts_take {w:World} {a:Option Addr} {n cap:Nat} {L:List ByteArray} (h:ze5 w (.slice a n cap) L) (k:Nat) (hk:k≤L.length) (h0:0<k):ze5 w (.slice a k cap) (L.take k):=by
 rcases h with ⟨_,h2⟩|⟨b,o,cap',hv,hb,hc⟩
 ·subst h2;simp at hk;omega
 ·injection hv with e1 e2 e3
  subst e1;refine .inr ⟨b,o,cap,by rw [List.length_take,Nat.min_eq_left hk],hb,fun j t hj=>hc j t ?_⟩;rw [List.getElem?_take] at hj
  split at hj
  ·exact hj
  ·cases hj
theorem own_cap {w:World} {B T n cap:Nat} {a:Option Addr} {xs:List Value} (h:w.ownsRow B T 1 (.slice a n cap) n xs):n≤cap:=by
 rcases h.2 with ⟨hv,h0⟩|⟨g,cap',cur,hv,hb,hg,hc,rest⟩
 ·omega
 ·injection hv with e1 e2 e3
  omega
end Mem
namespace zj8
set_option maxRecDepth 100000 in
theorem paths_any (p:ByteArray) (w:World):Calls Tryz.prog 62 #[.string p] w fun e w'=>e= .returned (.func (.func 79) #[] #[.pointer (some ⟨w.heap.size,0,none⟩)])∧w'=w.alloc (.cells #[.string p] 9):=by
 have hmf:∀ (fn:Fn) (first cap:Array Value) (w:World),(Instr.makeFunc fn first cap).run Tryz.prog w= .ok (.func fn first cap) w:=fun _ _ _ _=>rfl;go_enter Tryz.func62,Tryz.ntmps62
 go_wp2
 go_ret
 exact ⟨rfl,rfl⟩
end zj8
end
end Go.Proofs.YtpggbphcbcogdaaGreatDoor
