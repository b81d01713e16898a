/- Several texts of one claim in one file: MemDel, WIdx, WSpI16, WSpI21, WSpI22. -/
import Derived.Test.YtonffldjbmednaaGreatDoorG09
import Derived.Test.YtonffldjbmednaaGreatDoorG28
import Derived.Laws.CopyRow
import Derived.Test.YtonffldjbmednaaGreatDoorG07
import Derived.Test.YtonffldjbmednaaGreatDoorG15
import Derived.Test.YtonffldjbmednaaGreatDoorG01
import Derived.Test.YtonffldjbmednaaGreatDoorG34
import Derived.Test.YtonffldjbmednaaGreatDoorG24
import Derived.Test.YtonffldjbmednaaGreatDoorG36
import Derived.Test.YtonffldjbmednaaGreatDoorG31
import Derived.Test.YtonffldjbmednaaGreatDoorG35
import Derived.Test.YtonffldjbmednaaGreatDoorWTold
import Derived.Test.YtonffldjbmednaaGreatDoorG29
namespace Go.Proofs.YtonffldjbmednaaGreatDoor
section
open Go.RowKit
namespace Pl
theorem cells3_set {α:Type} {cs:α→List Value} {x:α} {a b c:Value} (hx:cs x=[a,b,c]) (h3:∀y,(cs y).length=3):∀ (L:List α) (i:Nat),i<L.length→(((cells3 cs L).set (i*3) a).set (i*3+1) b).set (i*3+2) c=cells3 cs (L.set i x):=by
 intro L
 induction L with
 |nil=>intro i h;simp at h
 |cons y L ih=>
  intro i h;have hy:=h3 y
  obtain ⟨a',b',c',e⟩:∃a' b' c',cs y=[a',b',c']:=by
   match hc:cs y,hy with
   | [a',b',c'],_=>exact ⟨a',b',c',rfl⟩
  cases i with
  |zero=>rw [List.set_cons_zero,zf4,zf4,e,hx];rfl
  |succ i=>
   rw [List.set_cons_succ,zf4,zf4,e,show (i+1)*3=i*3+1+1+1 by omega];have :=ih i (by simpa using h);rw [←this];rfl
theorem zz7 {α:Type} {cs:α→List Value} (h3:∀y,(cs y).length=3):∀ (L:List α) (i:Nat),(cells3 cs L).take (i*3)=cells3 cs (L.take i):=by
 intro L
 induction L with
 |nil=>intro i;simp [cells3]
 |cons y L ih=>
  intro i;cases i with
  |zero=>simp [cells3]
  |succ i=>rw [zf4,List.take_succ_cons,zf4,←ih i,show (i+1)*3=(cs y).length+i*3 by rw [h3];omega,List.take_length_add_append]
end Pl
namespace Mem
theorem own3_put {α:Type} {T:TypeId} {cs:α→List Value} {w:World} {B g cap n:Nat} {L:List α} (h3:∀y,(cs y).length=3) (h:own3 T cs w B (.slice (some ⟨g,0,none⟩) n cap) L) {i:Nat} {x:α} {a b c:Value} (hx:cs x=[a,b,c]) (hi:i<L.length):
  own3 T cs (((w.setCell ⟨g,i*3,none⟩ a).setCell ⟨g,i*3+1,none⟩ b).setCell ⟨g,i*3+2,none⟩ c) B (.slice (some ⟨g,0,none⟩) n cap) (L.set i x):=by
 have hn:L.length=n:=by
  rcases h.2 with ⟨e,_⟩|⟨_,_,_,e,_⟩
  ·cases e
  ·cases e;rfl
 unfold own3 at h ⊢;rw [List.length_set,←Pl.cells3_set hx h3 L i hi];subst hn;exact zq5 (zq5 (zq5 h _ a) _ b) _ c
theorem zx3 {w v:World} {X k:Nat} {u:Value} (h:w.grownBy v (some X)):w.grownBy (v.setCell ⟨X,k,none⟩ u) (some X):=
 ⟨h.os,h.tape,h.output,Nat.le_trans h.size (by simp [World.setCell]),fun j hj hne=>(heap_setCell_other _ _ _ _ (fun e=>hne (by rw [e]))).trans (h.block j hj hne)⟩
theorem clear3 {P:Program} {dT E:TypeId} {z:Value} (hu:P.underlying dT=some (.slice E)) (hz:∀w,(zeroValue E).run P w= .ok z w) (hzc:z.cells.size=3) (hz1:∀v∈z.cells.toList,v.oneCell'=true) {α:Type} {cs:α→List Value} {w:World} {B g cap n:Nat} {L:List α} (h3:∀y,(cs y).length=3) (h:own3 E cs w B (.slice (some ⟨g,0,none⟩) n cap) L) {i:Nat} (hi:i<n):
  ∃w',(∀ty c',(Builtin.clear_ #[dT] ty #[.slice (some ⟨g,i*3,none⟩) (n - i) c']).run P w= .ok (.tuple #[]) w')∧own3 E cs w' B (.slice (some ⟨g,0,none⟩) i cap) (L.take i)∧w.grownBy w' (some g):=by
 rcases h.2 with ⟨e,_⟩|⟨g',cap',cur,e,hb,hg,hc,hm,hs,ht⟩
 ·cases e
 ·cases e
  have hlen:(Builtin.zeroCells z.cells (L.length - i)).toList.length=(L.length - i)*3:=by
   rw [Array.length_toList,size_zeroCells,hzc]
  have hst:=run_storeCells_at P g (i*3) E (Builtin.zeroCells z.cells (L.length - i)).toList 0 cur w hg (by rw [hlen];have :=hs;omega) (fun v hv=>by
   rw [Array.mem_toList_iff] at hv;unfold Builtin.zeroCells at hv;obtain ⟨j, -,e⟩:=Array.mem_map.1 hv;have hj:j % z.cells.size<z.cells.size:=Nat.mod_lt _ (by omega);rw [getElem!_pos z.cells _ hj] at e
   exact hz1 v (by rw [Array.mem_toList_iff,←e];exact Array.getElem_mem hj))
  have hgl:=(Array.getElem?_eq_some_iff.1 hg).1;refine ⟨w.setRow g (cur.toList.take (i*3+0)++(Builtin.zeroCells z.cells (L.length - i)).toList++cur.toList.drop (i*3+0+(Builtin.zeroCells z.cells (L.length - i)).toList.length)).toArray,fun ty c'=>?_,?_,⟨rfl,rfl,rfl,by simp [World.setRow],fun k hk hne=>setRow_other w g k _ (fun e=>hne (by rw [e]))⟩⟩
  ·have hne:L.length - i≠0:=by omega
   obtain ⟨m,hm⟩:∃m,L.length - i=m+1:=⟨L.length - i - 1,by omega⟩;rw [hm] at hst ⊢;simp [Builtin.clear_,run_underlying hu,hz,hst]
  ·refine ⟨?_, .inr ⟨g,cap,_,?_,hb,setRow_heap w g cur _ E _ hg,?_,?_,?_,?_⟩⟩
   ·rw [Pl.za6 h3]
   ·rw [List.length_take,Nat.min_eq_left (by omega)]
   ·rw [List.length_take];omega
   ·exact hm
   ·rw [List.size_toArray,List.length_append,List.length_append,hlen,List.length_take,List.length_drop,Array.length_toList,hs];omega
   ·rw [Nat.add_zero,List.length_take,Nat.min_eq_left (by omega),←Pl.zz7 h3,←ht,List.append_assoc,List.take_append_of_le_length (by rw [List.length_take,Array.length_toList];omega),List.take_take,List.take_take,Nat.min_self,Nat.min_eq_left (by omega)]
end Mem
end
section
namespace Pl
theorem idx_or {α:Type} (f:α→Bool) (l:List α):idxF f l= -1∨∃k:Nat,idxF f l=(k:Int):=by
 cases h:l.findIdx? f with
 |none=>
  left
  rw [List.findIdx?_eq_none_iff] at h;exact idx_no fun j y hy=>by simpa using h y (List.mem_of_getElem? hy)
 |some k=>
  right
  rw [List.findIdx?_eq_some_iff_getElem] at h;obtain ⟨hk,h1,h2⟩:=h
  exact ⟨k,idx_at (List.getElem?_eq_getElem hk) h1 (fun j y hj hy=>by
   have :=h2 j hj;rw [List.getElem?_eq_getElem (by omega)] at hy;cases hy
   simpa using this)⟩
theorem idx_hit {α:Type} {f:α→Bool} {l:List α} {k:Nat} (h:idxF f l=(k:Int)):∃x,l[k]? =some x∧f x=true∧∀ (j:Nat) y,j<k→l[j]? =some y→f y=false:=by
 cases hf:l.findIdx? f with
 |none=>
  rw [List.findIdx?_eq_none_iff] at hf;have :=idx_no (f:=f) (l:=l) fun j y hy=>by simpa using hf y (List.mem_of_getElem? hy)
  omega
 |some m=>
  rw [List.findIdx?_eq_some_iff_getElem] at hf;obtain ⟨hk,h1,h2⟩:=hf
  have h3:∀ (j:Nat) y,j<m→l[j]? =some y→f y=false:=fun j y hj hy=>by
   have :=h2 j hj;rw [List.getElem?_eq_getElem (by omega)] at hy;cases hy
   simpa using this
  have :=idx_at (List.getElem?_eq_getElem hk) h1 h3;obtain rfl:k=m:=by omega
  exact ⟨_,List.getElem?_eq_getElem hk,h1,h3⟩
theorem idx_none {α:Type} {f:α→Bool} {l:List α} (h:idxF f l= -1):∀ (j:Nat) y,l[j]? =some y→f y=false:=fun j y hy=>by
 cases hf:f y with
 |false=>rfl
 |true=>
  rcases hq:l.findIdx? f with _|m
  ·rw [List.findIdx?_eq_none_iff] at hq;have :=hq y (List.mem_of_getElem? hy);rw [hf] at this;cases this
  ·rw [List.findIdx?_eq_some_iff_getElem] at hq;obtain ⟨hk,h1,h2⟩:=hq
   have :=idx_at (List.getElem?_eq_getElem hk) h1 (fun j y hj hy=>by
    have :=h2 j hj;rw [List.getElem?_eq_getElem (by omega)] at hy;cases hy
    simpa using this)
   omega
end Pl
end
section
open Go.RowKit
namespace WSpI
set_option linter.unusedSimpArgs false in
set_option maxRecDepth 100000 in
set_option maxHeartbeats 4000000 in
theorem delM_any (K:FuncId) (c:Value) (f:Pl.Mn→Bool) (a:Option Addr) (cap:Nat) (M:List Pl.Mn) (B:Nat) (w:World) (hl:M.length≤6) (hv:Mem.own3 50 Pl.Mn.cs w B (.slice a M.length cap) M)
  (hE:∀ (t:Pl.Mn) W,(callFunc K #[.agg #[.string t.p, .int .i64 t.i, .bool t.z],c]).run Tryz.prog W= .ok (.enter K #[.agg #[.string t.p, .int .i64 t.i, .bool t.z],c]) W)
  (hK:∀t∈M,∀W,w.grownBy W (Value.slice a M.length cap).ownBlock→Calls Tryz.prog K #[.agg #[.string t.p, .int .i64 t.i, .bool t.z],c] W fun e w'=>e= .returned (.bool (f t))∧Below W.heap.size W w'):
  Calls Tryz.prog 84 #[.slice a M.length cap, .func (.func K) #[] #[c]] w fun e w'=>∃a' cap',e= .returned (.slice a' (M.filter (fun x=>!f x)).length cap')∧Mem.own3 50 Pl.Mn.cs w' B (.slice a' (M.filter (fun x=>!f x)).length cap') (M.filter (fun x=>!f x))∧(∀g,(Value.slice a' (M.filter (fun x=>!f x)).length cap').ownBlock=some g→(Value.slice a M.length cap).ownBlock=some g)∧w.grownBy w' (Value.slice a M.length cap).ownBlock:=by
 obtain ⟨a0,c0,e0,hrow,hcap,hsh⟩:=Mem.zf7 Pl.Mn.three hv;cases e0
 have hcon:=hide (index_any K c f a cap M w (by omega) (Mem.zj3 hrow) hE (fun t ht W b=>hK t ht W ((Mem.zb8 b none).but _)));have HK:=hide hK;have HV:=hide hv;have HAT:=hide (fun (k:Nat) (h:Pl.idxF f M=(k:Int))=>Pl.idx_hit (f:=f) (l:=M) h);have HNO:=hide (fun (h:Pl.idxF f M= -1)=>Pl.idx_none (f:=f) (l:=M) h);have HOR:=hide (Pl.idx_or f M);generalize Pl.idxF f M=R at hcon HAT HNO HOR;clear hK hv hrow
 rcases za HOR with hR|⟨k,hR⟩
 ·subst hR;have e3:M.filter (fun x=>!f x)=M:=Pl.filter_none (za HNO rfl);rw [e3];clear HAT HNO HOR HK e3 hsh hE;go_enter Tryz.func84,Tryz.ntmps84
  go_wp2_with fail
  refine (za hcon).mono ?_;rintro e w1 ⟨rfl,bX⟩;have HV1:=hide (Mem.zc0 (za HV) bX);have g1:=hide ((Mem.zb8 bX none).but (Value.slice a M.length cap).ownBlock);clear HV hcon bX;go_wp2
  go_ret
  exact ⟨_,_,rfl,za HV1,fun _ h=>h,za g1⟩
 subst hR;obtain ⟨x0,hx0,hf0,hb0⟩:=za HAT k rfl;have hk0:=(List.getElem?_eq_some_iff.1 hx0).1
 rcases hsh with ⟨rfl,rfl,rfl⟩|⟨g,rfl,hBg,hgw⟩
 ·simp at hk0
 have D0:=hide (Pl.DelK.start hx0 hf0 hb0);have k1:((k:Int)== -1)=false:=beq_eq_false_iff_ne.2 (by omega);clear HAT HNO HOR hx0 hf0 hb0;go_enter Tryz.func84,Tryz.ntmps84
 go_wp2_with fail
 refine (za hcon).mono ?_;rintro e w1 ⟨rfl,bX⟩;have HV1:=hide (Mem.zc0 (za HV) bX);have g1:=hide ((Mem.zb8 bX none).but (some g));have hs1:=bX.size;clear HV hcon bX;go_wp2
 go_loopw [5,6] (fun s5 s6 wr=>∃ (i j:Nat) (L:List Pl.Mn),j≤M.length∧s5= .int .i64 (i:Int)∧s6= .int .i64 (j:Int)∧Hid (Pl.DelK f M L i j)∧Hid (Mem.own3 50 Pl.Mn.cs wr B (.slice (some ⟨g,0,none⟩) M.length cap) L)∧Hid (w.grownBy wr (some g))) (fun _ s6 _=>M.length - (intOf s6).toNat)
 case atStart=>exact ⟨k,k+1,M,by omega,rfl,by go_num,D0,HV1,g1⟩
 case round=>
  obtain ⟨i,j,L,hj,rfl,rfl,HD,HL,HG⟩:=hrel;clear D0 HV1 g1 hs1;have hLn:L.length=M.length:=(za HD).len;have hij:=(za HD).lt;by_cases hlt:j<M.length
  ·obtain ⟨t,ht⟩:∃n,M[j]? =some n:=⟨_,List.getElem?_eq_getElem hlt⟩;have htL:=(za HD).at ht
   have hrw:=Mem.zj3 (show Mem.zr3 Pl.Mn.cs wr (some ⟨g,0,none⟩) L by
    obtain ⟨_,_,e,h,_⟩:=Mem.zf7 Pl.Mn.three (za HL);obtain ⟨rfl, -,rfl⟩:=Value.slice.inj e
    exact h)
   obtain ⟨g',o',e',hg,q0,q1,q2⟩:=hrw j t htL;cases e'
   obtain ⟨y,hy⟩:∃y,L[i]? =some y:=⟨_,List.getElem?_eq_getElem (by omega)⟩;have u1:(j:Int)<(M.length:Int):=by omega
   have u3:(0:Int)≤(j:Int):=by omega
   have u4:(i:Int)<(M.length:Int):=by omega
   have u5:(0:Int)≤(i:Int):=by omega
   have bA:Below wr.heap.size wr (wr.alloc (.cells #[.string t.p, .int .i64 t.i, .bool t.z] 50)):=(Below.refl _ _).alloc (Nat.le_refl _) _;have X0:=hide (Mem.Blk.new wr #[.string t.p, .int .i64 t.i, .bool t.z] 50);have hc:=hide (fun W (b:Below wr.heap.size wr W)=>za HK t (List.mem_of_getElem? ht) W ((za HG).andThen (Mem.zb8 b none) (fun j hj=>by cases hj)));have HT:=hide ht;have HPI:=hide (⟨(Pl.zm7 Pl.Mn.three L i y hy 0 (by omega)).trans rfl,(Pl.zm7 Pl.Mn.three L i y hy 1 (by omega)).trans rfl,(Pl.zm7 Pl.Mn.three L i y hy 2 (by omega)).trans rfl⟩:(Pl.cells3 Pl.Mn.cs L)[i*3]? =some (.string y.p)∧(Pl.cells3 Pl.Mn.cs L)[i*3+1]? =some (.int .i64 y.i)∧(Pl.cells3 Pl.Mn.cs L)[i*3+2]? =some (.bool y.z));clear ht htL hrw hy;simp only [Nat.zero_add] at q0 q1 q2 HPI;have x0:=(za X0).cell 0;have x1:=(za X0).cell 1;have x2:=(za X0).cell 2;simp only [kGs] at x0 x1 x2
   go_wp2_with fail
   generalize wr.alloc (.cells #[.string t.p, .int .i64 t.i, .bool t.z] 50)=wA at bA X0 x0 x1 x2 ⊢;refine (za hc _ bA).mono ?_;rintro e w3 ⟨rfl,bX⟩;have b3:=hide (bA.trans (bX.mono bA.size));have HX3:=hide ((za X0).call bX);have c0:=(za HX3).cell 0;have c1:=(za HX3).cell 1;have c2:=(za HX3).cell 2;simp only [kGs] at c0 c1 c2;have HL3:=hide (Mem.zc0 (za HL) (za b3))
   have hO3:w3.ownsRow B 50 3 (.slice (some ⟨g,0,none⟩) M.length cap) M.length (Pl.cells3 Pl.Mn.cs L):=by
    have h:=za HL3;unfold Mem.own3 at h
    rwa [hLn] at h
   have HG3:=hide ((za HG).andThen (Mem.zb8 (za b3) none) (fun j hj=>by cases hj));have f0:=(Mem.zg hO3 (za HPI).1).2;have f1:=(Mem.zg hO3 (za HPI).2.1).2;have f2:=(Mem.zg hO3 (za HPI).2.2).2;have p0:=(Mem.zg hO3 (za HPI).1).1;have p1:=(Mem.zg hO3 (za HPI).2.1).1;have p2:=(Mem.zg hO3 (za HPI).2.2).1;clear hO3 x0 x1 x2 bA X0 bX hc q0 q1 q2 HL HG;cases hf:f t
   ·have HL4:=hide (Mem.own3_put Pl.Mn.three (za HL3) (i:=i) (x:=t) rfl (by omega));have HD4:=hide ((za HD).keep (za HT) hf);have HG4:=hide (Mem.zx3 (X:=g) (Mem.zx3 (X:=g) (Mem.zx3 (X:=g) (za HG3) (k:=i*3) (u:= .string t.p)) (k:=i*3+1) (u:= .int .i64 t.i)) (k:=i*3+2) (u:= .bool t.z));go_wp2
    go_roundw
    case rel=>exact ⟨i+1,j+1,L.set i t,by omega,by go_num,by go_num,HD4,HL4,HG4⟩
    case measure=>simp [intOf];omega
   ·have HD4:=hide ((za HD).skip (za HT) hf);go_wp2
    go_roundw
    case rel=>exact ⟨i,j+1,L,by omega,rfl,by go_num,HD4,HL3,HG3⟩
    case measure=>simp [intOf];omega
  ·have hjn:j=M.length:=by omega
   obtain ⟨e1,e2,e3⟩:=(za HD).done hjn;have u1:¬ (j:Int)<(M.length:Int):=by omega
   have hz:∀w,(zeroValue 50).run Tryz.prog w= .ok (.agg #[.string ⟨#[]⟩, .int .i64 0, .bool false]) w:=fun w=>by kernel_rfl
   obtain ⟨w5,hcl,hO5,hg5⟩:=Mem.clear3 (dT:=29) Tryz.underlying29 hz rfl (by decide) Pl.Mn.three (za HL) e3;have hs1:=Mem.slice_lo (P:=Tryz.prog) (dT:=29) (E:=50) (s:=3) Tryz.underlying29 (fun w=>by kernel_rfl) wr g M.length cap i e3 hcap;have hs2:=Mem.slice_hi (P:=Tryz.prog) (dT:=29) (E:=50) (s:=3) Tryz.underlying29 (fun w=>by kernel_rfl) w5 ⟨g,0,none⟩ M.length cap i (by omega) (by omega);have HO5:=hide hO5;have HG5:=hide ((za HG).andThen hg5 (fun j hj=> .inr hj));have HE2:=hide e2;have HE1:=hide e1;clear hO5 hg5 e1 e2 HD HL HG;go_wp2
   go_ret
   rw [za HE1] at HO5;have e2:=za HE2;exact ⟨some ⟨g,0,none⟩,cap,by rw [←e2];rfl,by rw [←e2];exact za HO5,fun q hq=>hq,za HG5⟩
end WSpI
end
section
set_option linter.unusedSimpArgs false
open Go.RowKit Go.Maps
namespace WSpI
set_option maxRecDepth 100000 in
set_option maxHeartbeats 800000 in
theorem unmount1_any (t m:Pl.Mn) (X:Nat) (w:World) (ht:t.p.size≤1048576) (hm:m.p.size≤1048576) (hX:Mem.Blk w X #[.string m.p, .int .i64 m.i, .bool m.z] 50):
  Calls Tryz.prog 85 #[.agg #[.string t.p, .int .i64 t.i, .bool t.z], .pointer (some ⟨X,0,none⟩)] w fun e w'=>e= .returned (.bool (Pl.za2 t.p&&Pl.za2 m.p&&Pl.underR (Pl.zb7 t.p) (Pl.zb7 m.p)))∧Below w.heap.size w w':=by
 have b0:=(Below.refl w.heap.size w).alloc (o:= .cells #[.string t.p, .int .i64 t.i, .bool t.z] 50) (Nat.le_refl _);have a0:=(Mem.Blk.new w #[.string t.p, .int .i64 t.i, .bool t.z] 50).cell 0;have y0:=(hX.alloc (.cells #[.string t.p, .int .i64 t.i, .bool t.z] 50)).cell 0;simp only [kGs] at a0 y0;have HU:=hide (fun W=>zt4.under_any t.p m.p W ht hm);generalize (Pl.za2 t.p&&Pl.za2 m.p&&Pl.underR (Pl.zb7 t.p) (Pl.zb7 m.p))=R at HU ⊢;clear hX;go_enter Tryz.func85,Tryz.ntmps85
 go_wp2_with fail
 refine (za HU _).mono ?_;rintro e w1 ⟨rfl,bX⟩;have bb:=b0.trans (bX.mono b0.size);go_wp2
 go_ret
 exact ⟨rfl,bb⟩
theorem delM_eq {M:List Pl.Mn} {m:Pl.Mn} (hm:Pl.za2 m.p=true) (hM:∀t∈M,Pl.za2 t.p=true):M.filter (fun x=>!(fun h:Pl.Mn=>Pl.za2 h.p&&Pl.za2 m.p&&Pl.underR (Pl.zb7 h.p) (Pl.zb7 m.p)) x)=Pl.delM M m.p:=by
 unfold Pl.delM;refine List.filter_congr fun x hx=>?_;simp only;rw [hM x hx,hm,Pl.zh5 (hM x hx),Pl.zh5 hm];rfl
set_option maxRecDepth 100000 in
set_option maxHeartbeats 4000000 in
theorem unmount_any (s:Pl.Sp) (q:Nat) (E:List (Int × Pl.Nv)) (sa ta:Option Addr) (sc tc B X:Nat) (m:Pl.Mn) (V w:World) (hG:SpO.SpV B V s q E sa sc ta tc) (hb:Below V.heap.size V w) (hXV:V.heap.size≤X)
  (hX:Mem.Blk w X #[.map (some q), .slice sa s.M.length sc, .slice ta s.H.length tc, .int .i64 s.next] 59) (hM:s.M.length≤6) (hH:s.H.length≤6) (hrise:(s.N.map (·.d)).Pairwise (· < ·)) (hi64:∀d∈s.N.map (·.d),MapI.i64 d)
  (hmz:m.p.size≤1048576) (hmp:∀t∈s.M,t.p.size≤1048576) (hpm:Pl.za2 m.p=true) (hpM:∀t∈s.M,Pl.za2 t.p=true):
  Calls Tryz.prog 48 #[.pointer (some ⟨X,0,none⟩), .agg #[.string m.p, .int .i64 m.i, .bool m.z]] w fun e w'=>e= .returned (.tuple #[])∧∃sa' sc',Mem.Blk w' X #[.map (some q), .slice sa' (Pl.delM s.M m.p).length sc', .slice ta s.H.length tc, .int .i64 s.next] 59∧
   SpO.SpV B w' ⟨s.ia,s.ic,s.N.filter (fun x=>keepF (Pl.delM s.M m.p) s.H x.d),s.ma,s.mc,(Pl.delM s.M m.p),s.ha,s.hc,s.H,s.next⟩ q (E.filter (fun x=>keepF (Pl.delM s.M m.p) s.H x.1)) sa' sc' ta tc∧Mem.Out B V.heap.size X w w':=by
 obtain ⟨wM,wH,oM,oH⟩:=hG.where';have hids:=hG.ids;have hlo:=hG.lo;have hqV:q<V.heap.size:=hG.mo.lt
 have hE:E.Pairwise (fun a b=>a.1≠b.1):=by
  rw [←List.pairwise_map (f:=fun x:Int × Pl.Nv=>x.1) (R:=fun a b=>a≠b),hids];exact hrise.imp (fun h=>by omega)
 have b1:Below w.heap.size w (w.alloc (.cells #[.string m.p, .int .i64 m.i, .bool m.z] 50)):=(Below.refl _ _).alloc (Nat.le_refl _) _;have hVs:=hb.size;have X1:=hide (hX.call b1);have hXw:=hX.lt;have hde:=delM_eq hpm hpM;have HD:=hide (fun W (b:Below (w.alloc (.cells #[.string m.p, .int .i64 m.i, .bool m.z] 50)).heap.size (w.alloc (.cells #[.string m.p, .int .i64 m.i, .bool m.z] 50)) W)=>delM_any 85 (.pointer (some ⟨w.heap.size,0,none⟩)) (fun h:Pl.Mn=>Pl.za2 h.p&&Pl.za2 m.p&&Pl.underR (Pl.zb7 h.p) (Pl.zb7 m.p)) sa sc s.M B W hM (Mem.zc0 (Mem.zc0 oM (hb.trans (b1.mono hVs))) b) (fun t W=>by kernel_rfl) (fun t ht W' g=>unmount1_any t m w.heap.size W' (hmp t ht) hmz ((((Mem.Blk.new w #[.string m.p, .int .i64 m.i, .bool m.z] 50).call b).grown g (fun e=>by have :=(wM _ e.symm).2.1;omega)))));have HDE:=hide hde
 have hmf:∀ (fn:Fn) (first cap:Array Value) (w:World),(Instr.makeFunc fn first cap).run Tryz.prog w= .ok (.func fn first cap) w:=fun _ _ _ _=>rfl;have x2:=(za X1).cell 1;have fx2:=(za X1).fr 1;simp only [kGs] at x2;have HG:=hide hG;have HWM:=hide wM;have HWH:=hide wH;have HOH:=hide oH;have HE:=hide hE;have HI:=hide hi64;have HB0:=hide hb;have HIDS:=hide hids;clear hX hG wM wH oM oH hE hi64 hb hids hde hpm hpM hmp hmz;go_enter Tryz.func48,Tryz.ntmps48
 go_wp2_with fail
 generalize w.alloc (.cells #[.string m.p, .int .i64 m.i, .bool m.z] 50)=w1 at b1 X1 HD x2 fx2 ⊢;refine (za HD _ (Below.refl _ _)).mono ?_;rintro e w3 ⟨sa',sc',rfl,oM3,bM,g3⟩;rw [za HDE] at oM3 bM ⊢;have hXM:∀g,(Value.slice sa s.M.length sc).ownBlock=some g→B≤g∧g<V.heap.size∧g≠q:=za HWM;have X3:=hide ((za X1).grown g3 (fun e=>by have :=(hXM _ e.symm).2.1;omega));have x2:=(za X3).cell 1;have fx2:=(za X3).fr 1;simp only [kGs] at x2;have X4:=hide ((za X3).put 1 (.slice sa' (Pl.delM s.M m.p).length sc'))
 have gW:∀b,b<V.heap.size→(Value.slice sa s.M.length sc).ownBlock≠some b→(w3.setCell ⟨X,1,none⟩ (.slice sa' (Pl.delM s.M m.p).length sc')).heap[b]? =V.heap[b]?:=fun b hb hne=>by
  rw [heap_setCell_other _ _ _ _ (by show b≠X;omega),g3.block b (by have :=b1.size;omega) (fun e=>hne e.symm),b1.block b (by omega),(za HB0).block b hb]
 have hs3:=g3.size;have hs1:=b1.size;have oH4:Mem.own3 87 Pl.Hn.cs (w3.setCell ⟨X,1,none⟩ (.slice sa' (Pl.delM s.M m.p).length sc')) B (.slice ta s.H.length tc) s.H:=Mem.zc9 (za HOH) (fun g hg=>gW g (za HWH g hg).2.1 (fun e=>(za HG).ne g e hg));have oM4:Mem.own3 50 Pl.Mn.cs (w3.setCell ⟨X,1,none⟩ (.slice sa' (Pl.delM s.M m.p).length sc')) B (.slice sa' (Pl.delM s.M m.p).length sc') (Pl.delM s.M m.p):=Mem.za9 oM3 _ _ (fun g hg=>by have :=(hXM g (bM g hg)).2.1;show X≠g;omega)
 have mo4:(w3.setCell ⟨X,1,none⟩ (.slice sa' (Pl.delM s.M m.p).length sc')).ownsMap Tryz.prog 2 MapI.elem q 12 (MapI.mapOf (Pl.vals E)):=by
  obtain ⟨es,cl,hq,rest⟩:=(za HG).mo;exact ⟨es,cl,(gW q hqV (fun e=>(hXM q e).2.2 rfl)).trans hq,rest⟩
 have HDR:=hide (drop_any X q E 12 sa' sc' (Pl.delM s.M m.p) ta tc s.H s.next _ (Nat.le_trans (List.length_filter_le _ _) (by omega)) (by omega) (by
  obtain ⟨a,c,e,h,_⟩:=Mem.zf7 Pl.Mn.three oM4;cases e
  exact Mem.zj3 h) (by
  obtain ⟨a,c,e,h,_⟩:=Mem.zf7 Pl.Hn.three oH4;cases e
  exact Mem.zf5 h) (za X4) (za HE) (by rw [za HIDS];exact za HI) mo4)
 have HO4:Hid (Mem.Out B V.heap.size X w (w3.setCell ⟨X,1,none⟩ (.slice sa' (Pl.delM s.M m.p).length sc'))):=hide ⟨g3.os.trans b1.os,g3.tape.trans b1.tape,g3.output.trans b1.output,by rw [World.size_setCell];omega,fun b hb hne hor=>by
  rw [heap_setCell_other _ _ _ _ (by show b≠X;omega),g3.block b (by omega) (fun e=>by have :=hXM b e.symm;omega),b1.block b hb]⟩
 have HGW:=hide gW;have HM4:=hide oM4;have HH4:=hide oH4;have HBM:=hide bM;have hs4:w3.heap.size=(w3.setCell ⟨X,1,none⟩ (.slice sa' (Pl.delM s.M m.p).length sc')).heap.size:=by rw [World.size_setCell]
 clear gW oM4 oH4 mo4 bM oM3 X1 HD hXM g3 b1 HB0 HI HE HOH X3 HIDS HDE;go_wp2_with fail
 generalize w3.setCell ⟨X,1,none⟩ (.slice sa' (Pl.delM s.M m.p).length sc')=w4 at HO4 HGW HM4 HH4 HDR X4 hs4 ⊢;refine (za HDR).mono ?_;rintro e w5 ⟨rfl,mo5,g5⟩;have hXH:=za HWH;have hXM:=za HWM;have X5:=hide ((za X4).grown g5 (fun e=>by have :=Option.some.inj e;omega));have hs5:=g5.size;have gW:∀b,b<V.heap.size→b≠q→(Value.slice sa s.M.length sc).ownBlock≠some b→w5.heap[b]? =V.heap[b]?:=fun b hb hq hne=>(g5.block b (by omega) (fun e=>hq (Option.some.inj e))).trans (za HGW b hb hne)
 have S5:=hide ((za HG).less (keepF (Pl.delM s.M m.p) s.H) (W':=w5) (M':=(Pl.delM s.M m.p)) (H':=s.H) (ma':=sa') (mc':=sc') (ha':=ta) (hc':=tc) (B1:=B) (B2:=B) (by omega) (fun b hb hq hne _=>gW b hb hq hne)
  (Mem.zc9 (za HM4) (fun g hg=>by have :=hXM g (za HBM g hg);exact g5.block g (by omega) (fun e=>by have :=Option.some.inj e;omega))) (za HBM)
  (Mem.zc9 (za HH4) (fun g hg=>by have :=hXH g hg;exact g5.block g (by omega) (fun e=>by have :=Option.some.inj e;omega))) (fun g hg=>hg) mo5 ⟨s.ia,s.ic,s.N.filter (fun x=>keepF (Pl.delM s.M m.p) s.H x.d),s.ma,s.mc,(Pl.delM s.M m.p),s.ha,s.hc,s.H,s.next⟩ rfl rfl rfl)
 have HO5:Hid (Mem.Out B V.heap.size X w w5):=by
  have h:=za HO4;exact hide ⟨g5.os.trans h.os,g5.tape.trans h.tape,g5.output.trans h.output,Nat.le_trans h.size g5.size,fun b hb hne hor=>(g5.block b (Nat.lt_of_lt_of_le hb h.size) (fun e=>by have :=Option.some.inj e;omega)).trans (h.block b hb hne hor)⟩
 clear gW hXH hXM HDR HG HGW HM4 HH4 HBM HO4 X4 mo5 g5 HWH HWM;go_wp2
 go_end0
 exact ⟨rfl,sa',sc',za X5,za S5,za HO5⟩
end WSpI
end
section
open Go.RowKit Go.Maps
namespace WSpI
theorem detach_told (s:Pl.Sp) (m:Pl.Mn) (hsm:s.N.length≤12∧s.M.length≤6∧s.H.length≤6∧(∀x∈s.N,x.Is.length≤12)∧(s.N.map (·.d)).Pairwise (· < ·)∧(∀d∈s.N.map (·.d),MapI.i64 d)) (hmp:∀m∈s.M,m.p.size≤1048576) (hhp:∀m∈s.H,m.p.size≤1048576) (hpm:Pl.za2 m.p=true) (hpM:∀t∈s.M,Pl.za2 t.p=true) (hmz:m.p.size≤1048576)
  (V:World) (q:Nat) (E:List (Int × Pl.Nv)) (sa ta:Option Addr) (sc tc B X:Nat) (W:World) (hG:SpO.SpV B V s q E sa sc ta tc) (b:Below V.heap.size V W) (hX:V.heap.size≤X) (hB:Mem.Blk W X #[.map (some q), .slice sa s.M.length sc, .slice ta s.H.length tc, .int .i64 s.next] 59):
  Calls Tryz.prog 48 #[.pointer (some ⟨X,0,none⟩), .agg #[.string m.p, .int .i64 m.i, .bool m.z]] W fun e w'=>e= .returned (.tuple #[])∧∃sa' sc',Mem.Blk w' X #[.map (some q), .slice sa' (Pl.delM s.M m.p).length sc', .slice ta s.H.length tc, .int .i64 s.next] 59∧Hid (∀W,Below w'.heap.size w' W→Calls Tryz.prog 34 #[.agg #[.map (some q), .slice sa' (Pl.delM s.M m.p).length sc', .slice ta s.H.length tc, .int .i64 s.next]] W fun e w'=>(∃u S1 S2 S3 lo hi,e= .returned (.agg u.cs)∧SpO.Told W w' ⟨s.ia,s.ic,s.N.filter (fun x=>keepF (Pl.delM s.M m.p) s.H x.d),s.ma,s.mc,Pl.delM s.M m.p,s.ha,s.hc,s.H,s.next⟩ u S1 S2 S3 lo hi)∧Below W.heap.size W w')∧Mem.Out B V.heap.size X W w':=by
 obtain ⟨k1,k2,k3,k4,k5,hi⟩:=hsm;refine (unmount_any s q E sa ta sc tc B X m V W hG b hX hB k2 k3 k5 hi hmz hmp hpm hpM).mono ?_;rintro e w' ⟨rfl,sa',sc',h1,h2,h3⟩;have hsub:(s.N.filter (fun x=>keepF (Pl.delM s.M m.p) s.H x.d)).Sublist s.N:=List.filter_sublist;refine ⟨rfl,sa',sc',h1,hide (fun W bW=>?_),h3⟩;have hS:=h2.call bW;exact told_any ⟨s.ia,s.ic,s.N.filter (fun x=>keepF (Pl.delM s.M m.p) s.H x.d),s.ma,s.mc,Pl.delM s.M m.p,s.ha,s.hc,s.H,s.next⟩ q _ sa' ta sc' tc B W hS (Nat.le_trans hsub.length_le k1) (Nat.le_trans (List.length_filter_le _ _) k2) k3 (k5.sublist (hsub.map _)) (fun d hd=>hi d ((hsub.map _).subset hd)) (fun x hx=>k4 x (hsub.subset hx)) (fun m hm=>hmp m (List.mem_filter.1 hm).1) hhp
end WSpI
end
end Go.Proofs.YtonffldjbmednaaGreatDoor
