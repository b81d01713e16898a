/- Several texts of one claim in one file: MapLookI, WSpI25, WSpI26, MemLess, WSpI27, WNumb, WSpI28, WUnder1S, WRest1S. -/
import Derived.Test.YtkighhofjmginaaGreatDoorWWkI
import Derived.Test.YtkighhofjmginaaGreatDoorWTold
import Derived.Maps.Ext
namespace Go.Proofs.YtkighhofjmginaaGreatDoor
section
open Go.RowKit Go.Maps
namespace MapI
theorem look_no {P:Program} (w:World) {ops:Array Oper} {rest:List Oper} {o:Oper} {a:Act} {Q:Exit→Act→World→Prop} (hg:o.guard=none) (m x:Operand) (t:TypeId) (hop:o.op=Op.lookup t m x false)
  (k e:TypeId) (K:Keyed P k) (ht:P.underlying t=some (.map k e)) (z:Value) (hz:(zeroValue e).run P w= .ok z w) (b n:Nat) (D:DataW Value)
  (hm:a.eval m= .map (some b)) (hown:w.ownsMap P k elem b n D) (kv:Value) (kl:Lit) (hx:a.eval x=kv) (hkey:keyOf P k kv=some kl) (v:Value) (hat:D.atKey kl (dat z)=dat v)
  (hK:wpList P ops Q rest (a.put o.dst v) w):
  wpList P ops Q (o::rest) a w:=by
 refine wpList_plain hg fun K' hK'=>?_;obtain ⟨v1,ps,hrun,hv⟩:=hown.lookup K ht hz (zr7 _) hkey
 have hd:v1=v:=by
  unfold elem at hv;simp only [Option.some.injEq,Prod.mk.injEq] at hv;rw [hat] at hv;exact zr6 hv.1
 subst hd;unfold Oper.wp;simp [execOp,hop,hm,hx,hrun,Result.andThen]
 exact hK' _ _ hK
end MapI
end
section
open Go.RowKit Go.Maps
namespace WSpI
theorem nest_is {w:World} {B:Nat} {y:Pl.Nv} {R:List (Int × List Pl.Nd)} (h:Mem.zj4 w B y R) (hr:(Pl.nest (Pl.rowO R)).isSome=true):∃L k q,y.m=some q∧y.n=k.len∧Mem.ownM w q L∧Mem.layX w (fun b=>b<w.heap.size) k (.slice y.a k.len y.cap)∧(Pl.Fx.cons L k .nil).okX∧Pl.nestX R=some (L,k):=by
 obtain ⟨L,k,q,h1,h2,⟨-,h5⟩,⟨h6,h7⟩,h8⟩:=h;refine ⟨L,k,q,h1,h2,h5,Mem.yf2 h8 (fun b _ hb=>hb),h6,?_⟩;cases hF:Pl.nest (Pl.rowO R) with
 |none=>rw [hF] at hr;cases hr
 |some F=>
  have e1:=(Pl.ye0 hF).2.1;have e2:=Pl.take_flat (Pl.Fx.cons L k .nil) [] h6;rw [List.append_nil,h7] at e2;have e3:(Pl.Fx.cons L k .nil).len=1:=rfl;rw [e3,e1] at e2
  injection e2 with e2
  injection e2 with e2 _
  injection e2 with e2 _
  exact Pl.yl1 (by rw [hF,e2]) h7
set_option linter.unusedSimpArgs false in
set_option maxRecDepth 100000 in
set_option maxHeartbeats 2000000 in
theorem seen_any (s:Pl.Sp) (q:Nat) (E:List (Int × Pl.Nv)) (sa ta:Option Addr) (sc tc B:Nat) (m:Pl.Mn) (RT:ByteArray) (w:World) (hG:SpO.SpV B w s q E sa sc ta tc) (hrise:(s.N.map (·.d)).Pairwise (· < ·)) (x:Pl.Ns) (k:Nat) (hx:s.N[k]? =some x) (hxd:x.d=m.i) (hi:MapI.i64 m.i) (hr:(Pl.nest (Pl.rowO (x.Is.map Pl.It.r))).isSome=true) (hp:Pl.za0 RT=true):
  Calls Tryz.prog 71 #[.agg #[.map (some q), .slice sa s.M.length sc, .slice ta s.H.length tc, .int .i64 s.next], .agg #[.string m.p, .int .i64 m.i, .bool m.z, .string RT]] w fun e w'=>(∃n b,e= .returned (.tuple #[.agg #[.string n.path, .int .i64 n.kind, .string n.data, .int .i64 n.time, .int .i64 0], .bool b])∧Pl.zm3 (x.Is.map Pl.It.r) RT=if b then some (Pl.noMark n) else none)∧Below w.heap.size w w':=by
 have b0:Below w.heap.size w (((w.alloc (.cells #[.map (some q), .slice sa s.M.length sc, .slice ta s.H.length tc, .int .i64 s.next] 73)).alloc (.cells #[.string m.p, .int .i64 m.i, .bool m.z, .string RT] 75)).alloc (.cells #[.string ⟨#[]⟩, .int .i64 0, .string ⟨#[]⟩, .int .i64 0, .int .i64 0] 60)):=((bE0).alloc (by simp) _).alloc (by simp;omega) _;have V0:=((Mem.Blk.new w #[.map (some q), .slice sa s.M.length sc, .slice ta s.H.length tc, .int .i64 s.next] 73).alloc (.cells #[.string m.p, .int .i64 m.i, .bool m.z, .string RT] 75)).alloc (.cells #[.string ⟨#[]⟩, .int .i64 0, .string ⟨#[]⟩, .int .i64 0, .int .i64 0] 60)
 have T0:=(WWk.yb6 w (.cells #[.map (some q), .slice sa s.M.length sc, .slice ta s.H.length tc, .int .i64 s.next] 73) #[.string m.p, .int .i64 m.i, .bool m.z, .string RT] 75).alloc (.cells #[.string ⟨#[]⟩, .int .i64 0, .string ⟨#[]⟩, .int .i64 0, .int .i64 0] 60);have N0:=WWk.ya8 w (.cells #[.map (some q), .slice sa s.M.length sc, .slice ta s.H.length tc, .int .i64 s.next] 73) (.cells #[.string m.p, .int .i64 m.i, .bool m.z, .string RT] 75) #[.string ⟨#[]⟩, .int .i64 0, .string ⟨#[]⟩, .int .i64 0, .int .i64 0] 60;have G0:=hG.call b0;have hnv:=SpO.nest_of G0.nests G0.ids (hrise.imp (fun h=>by omega)) hx;have hLK:=(Pl.zv9 (E:=E) (by have :=hG.ids;have h2:(E.map (·.1)).Pairwise (· < ·):=(by rw [this];exact hrise);exact (List.pairwise_map.1 h2).imp (fun h=>by omega)) m.i).2;have HMO:=hide G0.mo;rw [hxd] at hnv
 generalize Pl.getN E m.i=nv at hnv hLK;obtain ⟨L,K,q',h1,h2,h3,h4,h5,h6⟩:=nest_is hnv hr;obtain ⟨nm,nn,na,nc⟩:=nv;simp only at h1 h2 h4;subst h1 h2;have HAT:=hide hLK;have HWV:Hid (Pl.zm3 (x.Is.map Pl.It.r) RT=Pl.zh8 L K RT):=hide (by unfold Pl.zm3;rw [h6]);have HW:=hide (WWk.walk_any K.shape.depth K L q' (K.len:Int) (.slice na K.len nc) RT _ (Nat.le_refl _) h5.2.2.1 h5.2.2.2.1 h5.1 h3 h4 hp);have hkey:=MapI.zm4 hi;have a0:=V0.cell 0;have t0:=T0.cell 0;have t1:=T0.cell 1;have t3:=T0.cell 3;simp only [kGs] at a0 t0 t1 t3;have KN:=hide N0;have KB:=hide b0;clear hG hnv hLK h3 h4 h5 h6 G0 V0 T0 N0 b0 hrise;go_enter Tryz.func71,Tryz.ntmps71
 go_wp2_with (at_lookup;refine MapI.look_no _ rfl _ _ 71 rfl 2 113 MapI.law Tryz.underlying71 _ (Pl.zv5 _) q 12 _ rfl (za HMO) _ _ rfl hkey _ (za HAT) ?_)
 generalize ((w.alloc (.cells #[.map (some q), .slice sa s.M.length sc, .slice ta s.H.length tc, .int .i64 s.next] 73)).alloc (.cells #[.string m.p, .int .i64 m.i, .bool m.z, .string RT] 75)).alloc (.cells #[.string ⟨#[]⟩, .int .i64 0, .string ⟨#[]⟩, .int .i64 0, .int .i64 0] 60)=w2 at HW KN KB ⊢;refine (za HW).mono ?_;rintro e w3 ⟨⟨⟨np,nk,nd,nt,nm⟩,b,rfl,hO⟩,b3⟩;have N3:=(za KN).call b3;have B3:=hide ((za KB).trans (b3.mono (za KB).size));have HO:=hide ((za HWV).trans hO);obtain ⟨⟨d0,d1,d2,d3,d4⟩,f0,f1,f2,f3,f4⟩:=jf5 N3;clear HW KN KB b3 N3 hO HWV HMO HAT a0 t0 t1 t3;go_wp2
 refine bodyPost_ret (v:= .tuple #[.agg #[.string np, .int .i64 nk, .string nd, .int .i64 nt, .int .i64 0], .bool b]) (by simp [results,Tryz.results71,go_sem,d0,d1,d2,d3,d4]) rfl ⟨⟨_,_,rfl,za HO⟩,?_⟩;exact sc5 (za B3) (by omega)
end WSpI
end
section
open Go.RowKit Go.Maps
namespace WSpI
set_option linter.unusedSimpArgs false in
set_option maxRecDepth 100000 in
set_option maxHeartbeats 2000000 in
theorem whyO_any (s:Pl.Sp) (q:Nat) (E:List (Int × Pl.Nv)) (sa ta:Option Addr) (sc tc B:Nat) (m:Pl.Mn) (RT:ByteArray) (w:World) (hG:SpO.SpV B w s q E sa sc ta tc) (hrise:(s.N.map (·.d)).Pairwise (· < ·)) (x:Pl.Ns) (k:Nat) (hx:s.N[k]? =some x) (hxd:x.d=m.i) (hi:MapI.i64 m.i) (hr:(Pl.nest (Pl.rowO (x.Is.map Pl.It.r))).isSome=true) (hp:Pl.za0 RT=true):
  Calls Tryz.prog 34 #[.agg #[.map (some q), .slice sa s.M.length sc, .slice ta s.H.length tc, .int .i64 s.next], .agg #[.string m.p, .int .i64 m.i, .bool m.z, .string RT]] w fun e w'=>e= .returned (.int .i64 (Pl.zi3 (Pl.zm3 (x.Is.map Pl.It.r) RT) s.H.length s.next))∧Below w.heap.size w w':=by
 have b0:Below w.heap.size w ((w.alloc (.cells #[.map (some q), .slice sa s.M.length sc, .slice ta s.H.length tc, .int .i64 s.next] 73)).alloc (.cells #[.string m.p, .int .i64 m.i, .bool m.z, .string RT] 75)):=(bE0).alloc (by simp) _;have V0:=(Mem.Blk.new w #[.map (some q), .slice sa s.M.length sc, .slice ta s.H.length tc, .int .i64 s.next] 73).alloc (.cells #[.string m.p, .int .i64 m.i, .bool m.z, .string RT] 75);have T0:=WWk.yb6 w (.cells #[.map (some q), .slice sa s.M.length sc, .slice ta s.H.length tc, .int .i64 s.next] 73) #[.string m.p, .int .i64 m.i, .bool m.z, .string RT] 75;have HS:=hide (seen_any s q E sa ta sc tc B m RT _ (hG.call b0) hrise x k hx hxd hi hr hp);generalize Pl.zm3 (x.Is.map Pl.It.r) RT=o at HS ⊢;have a0:=V0.cell 0;have a1:=V0.cell 1;have a2:=V0.cell 2
 have a3:=V0.cell 3;have t0:=T0.cell 0;have t1:=T0.cell 1;have t2:=T0.cell 2;have t3:=T0.cell 3;simp only [kGs] at a0 a1 a2 a3 t0 t1 t2 t3;have KB:=hide b0;have KV:=hide V0;clear hG hrise hx hxd hi hr hp V0 T0 b0;go_enter Tryz.func34,Tryz.ntmps34
 go_wp2_with fail
 generalize (w.alloc (.cells #[.map (some q), .slice sa s.M.length sc, .slice ta s.H.length tc, .int .i64 s.next] 73)).alloc (.cells #[.string m.p, .int .i64 m.i, .bool m.z, .string RT] 75)=w2 at HS KB KV a0 a1 a2 a3 t0 t1 t2 t3 ⊢;refine (za HS).mono ?_;rintro e w3 ⟨⟨⟨np,nk,nd,nt,nm⟩,b,rfl,rfl⟩,b3⟩;have bA:Below w3.heap.size w3 (w3.alloc (.cells #[.string np, .int .i64 nk, .string nd, .int .i64 nt, .int .i64 0] 60)):=bE0;have N3:=Mem.Blk.new w3 #[.string np, .int .i64 nk, .string nd, .int .i64 nt, .int .i64 0] 60;have V3:=((za KV).call b3).call bA;have HB:=hide ((za KB).trans ((b3.trans (bA.mono b3.size)).mono (za KB).size));have n1:=N3.cell 1;have v2:=V3.cell 2;have v3:=V3.cell 3;simp only [kGs] at n1 v2 v3;clear HS KB KV a0 a1 a2 a3 t0 t1 t2 t3 b3 bA N3 V3;cases b with
 |false=>
  go_wp2
  go_ret
  exact ⟨rfl,za HB⟩
 |true=>
  by_cases hk:nk=2
  ·subst hk;by_cases hf:s.H.length=6
   ·have y1:(s.H.length:Int)=6:=by omega
    have y2:((s.H.length:Int)==6)=true:=by simpa using y1
    go_wp2
    go_ret
    exact ⟨by simp [Pl.zi3,Pl.noMark,hf],za HB⟩
   ·have y1:¬ (s.H.length:Int)=6:=by omega
    have y2:((s.H.length:Int)==6)=false:=by simpa using y1
    by_cases hn:s.next=1000000
    ·have z2:(s.next==1000000)=true:=by simpa using hn
     go_wp2
     go_ret
     exact ⟨by simp [Pl.zi3,Pl.noMark,hf,hn],za HB⟩
    ·have z2:(s.next==1000000)=false:=by simpa using hn
     go_wp2
     go_ret
     exact ⟨by simp [Pl.zi3,Pl.noMark,hf,hn],za HB⟩
  ·have y2:(nk==2)=false:=by simpa using hk
   go_wp2
   go_ret
   exact ⟨by simp [Pl.zi3,Pl.noMark,hk],za HB⟩
end WSpI
end
section
open Go.RowKit Go.Maps
namespace Mem
structure Out (lo hi X:Nat) (w w':World):Prop where
 os:w'.os=w.os
 tape:w'.tape=w.tape
 output:w'.output=w.output
 size:w.heap.size≤w'.heap.size
 block:∀b,b<w.heap.size→b≠X→b<lo∨hi≤b→w'.heap[b]? =w.heap[b]?
theorem Out.below {lo hi X:Nat} {w w':World} (h:Out lo hi X w w') (hX:lo≤X) (hw:lo≤w.heap.size):Below lo w w':=⟨h.os,h.tape,h.output,h.size,fun b hb=>h.block b (by omega) (by omega) (.inl hb)⟩
theorem Out.blk {lo hi X:Nat} {w w':World} (h:Out lo hi X w w') {Y:Nat} {cs:Array Value} {T:TypeId} (b:Blk w Y cs T) (hY:Y≠X) (hl:Y<lo∨hi≤Y):Blk w' Y cs T:=(h.block Y b.lt hY hl).trans b
theorem own3_base {α:Type} {T:TypeId} {cs:α→List Value} {w:World} {B S:Nat} {v:Value} {L:List α} (h:own3 T cs w B v L) (hS:∀g,v.ownBlock=some g→S≤g):own3 T cs w S v L:=by
 refine ⟨h.1,?_⟩
 rcases h.2 with h0|⟨g,cap,cur,rfl,hb,rest⟩
 ·exact .inl h0
 ·exact .inr ⟨g,cap,cur,rfl,hS g rfl,rest⟩
theorem zg1.filter {w:World} {B:Nat} (f:Int→Bool):∀ (E:List (Int × Pl.Nv)) (N:List Pl.Ns),zg1 w B E N→E.map (·.1)=N.map (·.d)→zg1 w B (E.filter (fun x=>f x.1)) (N.filter (fun x=>f x.d)):=by
 intro E
 induction E with
 |nil=>intro N h e i y hy;simp at hy
 |cons a E ih=>
  intro N h e;cases N with
  |nil=>simp at e
  |cons b N=>
   rw [List.map_cons,List.map_cons,List.cons.injEq] at e;have h2:zg1 w B E N:=fun i y hy=>h (i+1) y (by simpa using hy);have h3:=ih N h2 e.2;rw [List.filter_cons,List.filter_cons,←e.1];cases f a.1 with
   |false=>exact h3
   |true=>
    intro i y hy;cases i with
    |zero=>exact h 0 y (by simpa using hy)
    |succ i=>exact h3 i y (by simpa using hy)
end Mem
namespace SpO
end SpO
end
section
open Go.RowKit Go.Maps
namespace Mem
theorem zz0 {P:Program} {ops:Array Oper} {o:Oper} {a:Act} {w:World} {K:Act→World→Prop} {Q:Exit→Act→World→Prop} {E:Prop}
  (hg:o.guard=none) (s x:Operand) (t:TypeId) (hop:o.op=Op.call { callee:=Callee.builtin Builtin.append,args:=#[s,x],argTypes:=#[t,t] })
  (base:Nat) (e:TypeId) (i:TypeInfo) (z:Value) (size bytes:Nat) (h1:P.underlying t=some (.slice e)) (h2:P.info? e=some i) (h3:i.zero=some z) (h4:i.size=size) (h5:i.bytes=bytes) (h6:z.cells.size=size) (h7:0<size)
  (v:Value) (n:Nat) (xs:List Value) (hs:a.eval s=v) (hown:w.ownsRow base e size v n xs)
  (ad:Addr) (m c:Nat) (news:List Value) (hx:a.eval x= .slice (some ad) m c) (hn:news.length=m*size) (hc:∀j u,news[j]? =some u→w.cell? (ad.add j)=some u) (h1c:∀u∈news,u.oneCell'=true)
  (b1:n+m≤maxLen) (b2:(n+m)*bytes≤140737488355328) (hbase:base≤w.heap.size)
  (hK:∀v' w',w'.ownsRow base e size v' (n+m) (xs++news)→w.grownBy w' v.ownBlock→(∀g,v'.ownBlock=some g→v.ownBlock=some g∨w.heap.size≤g)→K (a.put o.dst v') w'):
  if Region.wanted o (yielded ops a.tmps)=true then Oper.wp P o a w K Q else E:=by
 have hw:Region.wanted o (yielded ops a.tmps)=true:=by simp [Region.wanted,hg]
 rw [if_pos hw];obtain ⟨v',w',hrun,r1,r2,r3⟩:=zu4 (P:=P) w base t o.type e i z size bytes h1 h2 h3 h4 h5 h6 h7 v n xs hown ad m c news hn hc h1c b1 b2 hbase;unfold Oper.wp;simp [execOp,hop,resolve,invoke,builtin,hs,hx,hrun,Result.andThen]
 exact hK v' w' r1 r2 r3
end Mem
namespace SpO
theorem SpV.more {B:Nat} {V W':World} {s:Pl.Sp} {q:Nat} {E:List (Int × Pl.Nv)} {ma:Option Addr} {mc:Nat} {ha ha':Option Addr} {hc hc':Nat} (h:SpV B V s q E ma mc ha hc) (y:Pl.Hn) (n':Int) (hs:V.heap.size≤W'.heap.size) (gb:∀b,b<V.heap.size→(Value.slice ha s.H.length hc).ownBlock≠some b→W'.heap[b]? =V.heap[b]?)
  {B2:Nat} (oH:Mem.own3 67 Pl.Hn.cs W' B2 (.slice ha' (s.H.length+1) hc') (s.H++[y])) (bH:∀g,(Value.slice ha' (s.H.length+1) hc').ownBlock=some g→(Value.slice ha s.H.length hc).ownBlock=some g∨V.heap.size≤g):
  SpV B W' ⟨s.ia,s.ic,s.N,s.ma,s.mc,s.M,s.ha,s.hc,s.H++[y],n'⟩ q E ma mc ha' hc':=by
 obtain ⟨h1,h2,h3,⟨W1,h4,h5,h6,h7,h8,h9⟩,h10⟩:=h;have lM:=Mem.zb h8;have lH:=Mem.zb h9
 have keepM:Mem.own3 56 Pl.Mn.cs W' W1.heap.size (.slice ma s.M.length mc) s.M:=by
  refine ⟨h8.1,?_⟩
  rcases h8.2 with h0|⟨g,cap,cur,e,hb,hg,rest⟩
  ·exact .inl h0
  ·refine .inr ⟨g,cap,cur,e,hb,?_,rest⟩;exact (gb g (Array.getElem?_eq_some_iff.1 hg).1 (fun e2=>h10 g (by rw [e];rfl) e2)).trans hg
 refine ⟨h1,h2,?_,⟨W1,h4,Nat.le_trans h5 hs,h6,fun b hb hl=>(gb b (by omega) (fun e=>by have :=(lH b e).1;omega)).trans (h7 b hb hl),keepM,?_⟩,fun g hg e=>?_⟩
 ·obtain ⟨es,cl,hb,F,hh,hD⟩:=h3;refine ⟨es,cl,(gb q (by omega) (fun e=>by have :=(lH q e).1;omega)).trans hb,F,hh,hD⟩
 ·have e:(s.H++[y]).length=s.H.length+1:=by simp
  show Mem.own3 _ _ _ _ (.slice ha' (s.H++[y]).length hc') _;rw [e]
  exact Mem.own3_base oH (fun g hg=>by
   rcases bH g hg with h|h
   ·exact (lH g h).1
   ·omega)
 ·have e':(s.H++[y]).length=s.H.length+1:=by simp
  have e2:(Value.slice ha' (s.H.length+1) hc').ownBlock=some g:=by rw [←e'];exact e
  rcases bH g e2 with h|h
  ·exact h10 g hg h
  ·have :=(lM g hg).2;omega
end SpO
namespace WSpI
theorem infoH:(Tryz.prog.info? 67).map (fun i=>(i.zero,i.size,i.bytes))=some (some (.agg #[.int .i64 0, .int .i64 0, .string ⟨#[]⟩]),3,32):=by kernel_rfl
set_option linter.unusedSimpArgs false in
set_option maxRecDepth 100000 in
set_option maxHeartbeats 4000000 in
theorem openH_any (s:Pl.Sp) (q:Nat) (E:List (Int × Pl.Nv)) (sa ta:Option Addr) (sc tc B X:Nat) (m:Pl.Mn) (RT:ByteArray) (V w:World) (hG:SpO.SpV B V s q E sa sc ta tc) (hb:Below V.heap.size V w) (hXV:V.heap.size≤X)
  (hX:Mem.Blk w X #[.map (some q), .slice sa s.M.length sc, .slice ta s.H.length tc, .int .i64 s.next] 73) (hH:s.H.length≤6)
  (HNU:∀ (va vb:Value) (w:World),Mem.Blk w X #[.map (some q),va,vb, .int .i64 s.next] 73→Calls Tryz.prog 72 #[.pointer (some ⟨X,0,none⟩)] w fun e w'=>e= .returned (.int .i64 s.next)∧w'=w.setCell ⟨X,3,none⟩ (.int .i64 (s.next+1))):
  Calls Tryz.prog 35 #[.pointer (some ⟨X,0,none⟩), .agg #[.string m.p, .int .i64 m.i, .bool m.z, .string RT]] w fun e w'=>e= .returned (.int .i64 s.next)∧∃ta' tc',Mem.Blk w' X #[.map (some q), .slice sa s.M.length sc, .slice ta' (s.H.length+1) tc', .int .i64 (s.next+1)] 73∧
   SpO.SpV B w' ⟨s.ia,s.ic,s.N,s.ma,s.mc,s.M,s.ha,s.hc,s.H++[⟨s.next,m.i,RT⟩],s.next+1⟩ q E sa sc ta' tc'∧Mem.Out B V.heap.size X w w':=by
 obtain ⟨i0,hi,hz0,hz1,hz2⟩:=info_parts infoH;obtain ⟨W1,h4,h5,h6,h7,h8,h9⟩:=hG.nv;have lH:=Mem.zb h9;have hlo:=hG.lo;have hXw:=hX.lt;have hVw:=hb.size;have bA:Below w.heap.size w (w.alloc (.cells #[.string m.p, .int .i64 m.i, .bool m.z, .string RT] 75)):=bE0;have Y1:=Mem.Blk.new w #[.string m.p, .int .i64 m.i, .bool m.z, .string RT] 75;have X1:=hX.call bA;have HN:=hide (HNU _ _ _ X1);have OH:=Mem.zd7 (Mem.zd7 h9 hb) bA;have X2:=X1.put 3 (.int .i64 (s.next+1));have Y2:=Y1.far ⟨X,3,none⟩ (.int .i64 (s.next+1)) (by show w.heap.size≠X;omega);have OH2:=Mem.zb2 OH ⟨X,3,none⟩ (.int .i64 (s.next+1)) (fun g hg=>by have :=(lH g hg).2;show X≠g;omega);simp only [kB3,kB4,kB5] at X2
 have g2:(w.alloc (.cells #[.string m.p, .int .i64 m.i, .bool m.z, .string RT] 75)).grownBy ((w.alloc (.cells #[.string m.p, .int .i64 m.i, .bool m.z, .string RT] 75)).setCell ⟨X,3,none⟩ (.int .i64 (s.next+1))) (some X):=⟨rfl,rfl,rfl,by rw [World.size_setCell];exact Nat.le_refl _,fun j _ hj=>heap_setCell_other _ _ _ _ (fun e=>hj (congrArg some e))⟩;have HB2:Hid (∀b,b<w.heap.size→b≠X→((w.alloc (.cells #[.string m.p, .int .i64 m.i, .bool m.z, .string RT] 75)).setCell ⟨X,3,none⟩ (.int .i64 (s.next+1))).heap[b]? =w.heap[b]?):=hide (fun b hb hne=>(heap_setCell_other _ _ _ _ (by show b≠X;exact hne)).trans (bA.block b hb));have HO2:=hide (⟨g2.os,g2.tape,g2.output⟩:_∧_∧_)
 have hs2:((w.alloc (.cells #[.string m.p, .int .i64 m.i, .bool m.z, .string RT] 75)).setCell ⟨X,3,none⟩ (.int .i64 (s.next+1))).heap.size=w.heap.size+1:=by rw [World.size_setCell];simp
 have HG:=hide hG;have HBV:=hide hb;have HLH:=hide lH;clear hX X1 Y1 OH bA g2 hG hb HNU h4 h7 h8 h9 lH;go_enter Tryz.func35,Tryz.ntmps35
 go_wp2_with fail
 refine (za HN).mono ?_;rintro e w2 ⟨rfl,hw2⟩;have HO3:Hid (w2.os=w.os∧w2.tape=w.tape∧w2.output=w.output):=hide (by rw [hw2];exact ⟨rfl,rfl,rfl⟩);rw [←hw2] at X2 Y2 OH2 HB2 hs2;clear hw2 HN HO2;generalize hYe:w.heap.size=Y at *;have HYE:=hide hYe;clear hYe;go_upto_region 2 with fail
 have MK:Hid (∀W',Mem.Blk W' Y #[.string m.p, .int .i64 m.i, .bool m.z, .string RT] 75→(W'.cell? ⟨Y,1,none⟩=some (.int .i64 m.i)∧W'.cell? ⟨Y,3,none⟩=some (.string RT))):=hide fun W' h2=>⟨h2.cell 1,h2.cell 3⟩;go_wp2_with fail
 refine wp_region_held_drew (S:=fun W'=>W'.cell? ⟨Y,1,none⟩=some (.int .i64 m.i)∧W'.cell? ⟨Y,3,none⟩=some (.string RT)) (by kernel_rfl) ?_ (fun hHeld=>?_)
 ·exact za MK _ (Y2.call (bD _))
 have X3:=X2.call (bD (n:=w2.heap.size) w2);have Y3:=Y2.call (bD (n:=w2.heap.size) w2);have O3:=Mem.zd7 OH2 (bD _);have HB3:Hid (∀b,b<Y→b≠X→w2.drew.heap[b]? =w.heap[b]?):=za HB2 |> hide;have HO4:Hid (w2.drew.os=w.os∧w2.drew.tape=w.tape∧w2.drew.output=w.output):=za HO3 |> hide;have hs3:w2.drew.heap.size=Y+1:=hs2;generalize w2.drew=D0 at hHeld X3 Y3 O3 HB3 HO4 hs3 ⊢;clear X2 Y2 OH2 HB2 HO3 hs2;refine TB 0 ?_;refine TB 1 ?_;refine TB 2 ?_;refine TB 3 ?_;refine TB 5 ?_;refine TB 6 ?_;refine TB 7 ?_;refine TB 8 ?_;refine TB 9 ?_;refine TB 10 ?_;refine TB 11 ?_;refine wpAnyH_ready (rs:=[4,12]) (by kernel_rfl) (by simp) ?_;refine AllReadyH.cons rfl (fun K hK=>?_) (AllReadyH.cons rfl (fun K hK=>?_) AllReadyH.nil)
 ·have x2:=X3.cell 2;simp only [kGs] at x2;go_simp
  clear x2;refine hK.out _ _ ?_ (fun hHeld=>?_)
  ·exact za MK _ Y3
  clear hK K
  try simp only [Act.put,kBs]
  refine RN 12 fun K hK=>?_;go_simp
  have bA2:Below D0.heap.size D0 (D0.alloc (.cells #[.int .i64 s.next, .int .i64 m.i, .string RT] 67)):=bE0;have X4:=X3.call bA2;have Y4:=Y3.call bA2;have O4:=Mem.zd7 O3 bA2;have Z4:=Mem.Blk.new D0 #[.int .i64 s.next, .int .i64 m.i, .string RT] 67;rw [hs3] at Z4;have HB4:Hid (∀b,b<Y→b≠X→(D0.alloc (.cells #[.int .i64 s.next, .int .i64 m.i, .string RT] 67)).heap[b]? =w.heap[b]?):=hide (fun b hb hne=>(bA2.block b (by omega)).trans (za HB3 b hb hne))
  have HO5:Hid ((D0.alloc (.cells #[.int .i64 s.next, .int .i64 m.i, .string RT] 67)).os=w.os∧(D0.alloc (.cells #[.int .i64 s.next, .int .i64 m.i, .string RT] 67)).tape=w.tape∧(D0.alloc (.cells #[.int .i64 s.next, .int .i64 m.i, .string RT] 67)).output=w.output):=hide ⟨bA2.os.trans (za HO4).1,bA2.tape.trans (za HO4).2.1,bA2.output.trans (za HO4).2.2⟩;have hs4:(D0.alloc (.cells #[.int .i64 s.next, .int .i64 m.i, .string RT] 67)).heap.size=Y+2:=by simp [hs3]
  refine hK.out _ _ ?_ (fun hHeld=>?_)
  ·exact za MK _ Y4
  clear hK K bA2 X3 Y3 O3 HB3 HO4
  try simp only [Act.put,kBs]
  generalize D0.alloc (.cells #[.int .i64 s.next, .int .i64 m.i, .string RT] 67)=D1 at hHeld X4 Y4 O4 Z4 HB4 HO5 hs4 ⊢
  have hnew:∀j u,([.int .i64 s.next, .int .i64 m.i, .string RT]:List Value)[j]? =some u→D1.cell? ((⟨Y+1,0,none⟩:Addr).add j)=some u:=fun j u hj=>by
   rw [Mem.add_lit,Z4.cell j,List.getElem?_toArray];exact hj
  refine RN 13 fun K hK=>?_;refine Mem.zz0 rfl _ _ 30 rfl W1.heap.size 67 i0 (.agg #[.int .i64 0, .int .i64 0, .string ⟨#[]⟩]) 3 32 Tryz.underlying30 hi hz0 hz1 hz2 rfl (by decide) (.slice ta s.H.length tc) s.H.length _ rfl O4 ⟨Y+1,0,none⟩ 1 1 [.int .i64 s.next, .int .i64 m.i, .string RT] rfl rfl hnew (by simp [Value.oneCell']) (by unfold maxLen;omega) (by omega) (by omega) ?_;intro v' D2 own5 grow5 far5;have lT:∀g,(Value.slice ta s.H.length tc).ownBlock=some g→g<V.heap.size:=fun g hg=>(za HLH g hg).2;have X5:=X4.grown grow5 (fun e=>by have :=lT X e.symm;omega);have Y5:=Y4.grown grow5 (fun e=>by have :=lT Y e.symm;omega)
  obtain ⟨ta',tc',hv'⟩:∃ta' tc',v'= .slice ta' (s.H.length+1) tc':=by
   rcases own5.2 with ⟨-,h0⟩|⟨g,cap,cur,e, -⟩
   ·omega
   ·exact ⟨_,_,e⟩
  subst hv'
  have O5:Mem.own3 67 Pl.Hn.cs D2 W1.heap.size (.slice ta' (s.H.length+1) tc') (s.H++[⟨s.next,m.i,RT⟩]):=by
   unfold Mem.own3;rw [Pl.zt5,Pl.zr9,List.length_append];exact own5
  have HB5:Hid (∀b,b<Y→b≠X→(Value.slice ta s.H.length tc).ownBlock≠some b→D2.heap[b]? =w.heap[b]?):=hide (fun b hb hne hno=>(grow5.block b (by omega) (fun e=>hno e.symm)).trans (za HB4 b hb hne));have HO6:Hid (D2.os=w.os∧D2.tape=w.tape∧D2.output=w.output):=hide ⟨grow5.os.trans (za HO5).1,grow5.tape.trans (za HO5).2.1,grow5.output.trans (za HO5).2.2⟩;have hs5:Y+2≤D2.heap.size:=by have :=grow5.size;omega
  have HF5:Hid (∀g,(Value.slice ta' (s.H.length+1) tc').ownBlock=some g→(Value.slice ta s.H.length tc).ownBlock=some g∨Y+2≤g):=hide (fun g hg=>by have :=far5 g hg;rw [hs4] at this;exact this);refine hK.out _ _ ?_ (fun hHeld=>?_)
  ·exact za MK _ Y5
  clear hK K own5 grow5 far5 X4 Y4 O4 Z4 HB4 HO5 hnew
  try simp only [Act.put,kBs]
  refine TB 14 ?_;refine TB 15 ?_;refine RN 16 fun K hK=>?_;have x2:=X5.cell 2;have fx2:=X5.fr 2;simp only [kGs] at x2;go_simp
  have X6:=X5.put 2 (.slice ta' (s.H.length+1) tc');have Y6:=Y5.far ⟨X,2,none⟩ (.slice ta' (s.H.length+1) tc') (by show Y≠X;omega)
  have O6:=Mem.zb2 O5 ⟨X,2,none⟩ (.slice ta' (s.H.length+1) tc') (fun g hg e=>by
   have e2:X=g:=e;have hg2:(Value.slice ta' (s.H.length+1) tc').ownBlock=some g:=hg
   rcases za HF5 g hg2 with h|h
   ·have :=lT g h;omega
   ·omega)
  simp only [kB3,kB4,kB5] at X6;have HB6:Hid (∀b,b<Y→b≠X→(Value.slice ta s.H.length tc).ownBlock≠some b→(D2.setCell ⟨X,2,none⟩ (.slice ta' (s.H.length+1) tc')).heap[b]? =w.heap[b]?):=hide (fun b hb hne hno=>(heap_setCell_other _ _ _ _ (by show b≠X;exact hne)).trans (za HB5 b hb hne hno));have HO7:Hid ((D2.setCell ⟨X,2,none⟩ (.slice ta' (s.H.length+1) tc')).os=w.os∧(D2.setCell ⟨X,2,none⟩ (.slice ta' (s.H.length+1) tc')).tape=w.tape∧(D2.setCell ⟨X,2,none⟩ (.slice ta' (s.H.length+1) tc')).output=w.output):=za HO6 |> hide;have hs6:Y+2≤(D2.setCell ⟨X,2,none⟩ (.slice ta' (s.H.length+1) tc')).heap.size:=by rw [World.size_setCell];exact hs5
  refine hK.out _ _ ?_ (fun hHeld=>?_)
  ·exact za MK _ Y6
  clear hK K X5 Y5 O5 HB5 HO6 hs5 x2 fx2 MK
  try simp only [Act.put,kBs]
  refine wpAnyH_done (by kernel_rfl) ?_ _;generalize D2.setCell ⟨X,2,none⟩ (.slice ta' (s.H.length+1) tc')=D3 at X6 Y6 O6 HB6 HO7 hs6 ⊢;have HX6:=hide X6;have HO6:=hide O6;clear X6 Y6 O6 hHeld;go_wp2
  go_ret
  have hYE:=za HYE;have lH:=za HLH;refine ⟨rfl,ta',tc',za HX6,?_,?_⟩
  ·refine (za HG).more ⟨s.next,m.i,RT⟩ (s.next+1) (by omega) (fun b hb hno=>?_) (za HO6) (fun g hg=>?_)
   ·rw [za HB6 b (by omega) (by omega) hno];exact (za HBV).block b hb
   ·rcases za HF5 g hg with h|h
    ·exact .inl h
    ·exact .inr (by omega)
  ·refine ⟨(za HO7).1,(za HO7).2.1,(za HO7).2.2,by omega,fun b hb hne hh=>za HB6 b (by omega) hne (fun e=>?_)⟩;have :=lH b e;omega
 ·go_simp
  have bA2:Below D0.heap.size D0 (D0.alloc (.cells #[.int .i64 s.next, .int .i64 m.i, .string RT] 67)):=bE0;have X4:=X3.call bA2;have Y4:=Y3.call bA2;have O4:=Mem.zd7 O3 bA2;have Z4:=Mem.Blk.new D0 #[.int .i64 s.next, .int .i64 m.i, .string RT] 67;rw [hs3] at Z4;have HB4:Hid (∀b,b<Y→b≠X→(D0.alloc (.cells #[.int .i64 s.next, .int .i64 m.i, .string RT] 67)).heap[b]? =w.heap[b]?):=hide (fun b hb hne=>(bA2.block b (by omega)).trans (za HB3 b hb hne))
  have HO5:Hid ((D0.alloc (.cells #[.int .i64 s.next, .int .i64 m.i, .string RT] 67)).os=w.os∧(D0.alloc (.cells #[.int .i64 s.next, .int .i64 m.i, .string RT] 67)).tape=w.tape∧(D0.alloc (.cells #[.int .i64 s.next, .int .i64 m.i, .string RT] 67)).output=w.output):=hide ⟨bA2.os.trans (za HO4).1,bA2.tape.trans (za HO4).2.1,bA2.output.trans (za HO4).2.2⟩;have hs4:(D0.alloc (.cells #[.int .i64 s.next, .int .i64 m.i, .string RT] 67)).heap.size=Y+2:=by simp [hs3]
  refine hK.out _ _ ?_ (fun hHeld=>?_)
  ·exact za MK _ Y4
  clear hK K bA2 X3 Y3 O3 HB3 HO4
  try simp only [Act.put,kBs]
  generalize D0.alloc (.cells #[.int .i64 s.next, .int .i64 m.i, .string RT] 67)=D1 at hHeld X4 Y4 O4 Z4 HB4 HO5 hs4 ⊢;refine RN 4 fun K hK=>?_;have x2:=X4.cell 2;simp only [kGs] at x2;go_simp
  clear x2;refine hK.out _ _ ?_ (fun hHeld=>?_)
  ·exact za MK _ Y4
  clear hK K
  try simp only [Act.put,kBs]
  have hnew:∀j u,([.int .i64 s.next, .int .i64 m.i, .string RT]:List Value)[j]? =some u→D1.cell? ((⟨Y+1,0,none⟩:Addr).add j)=some u:=fun j u hj=>by
   rw [Mem.add_lit,Z4.cell j,List.getElem?_toArray];exact hj
  refine RN 13 fun K hK=>?_;refine Mem.zz0 rfl _ _ 30 rfl W1.heap.size 67 i0 (.agg #[.int .i64 0, .int .i64 0, .string ⟨#[]⟩]) 3 32 Tryz.underlying30 hi hz0 hz1 hz2 rfl (by decide) (.slice ta s.H.length tc) s.H.length _ rfl O4 ⟨Y+1,0,none⟩ 1 1 [.int .i64 s.next, .int .i64 m.i, .string RT] rfl rfl hnew (by simp [Value.oneCell']) (by unfold maxLen;omega) (by omega) (by omega) ?_;intro v' D2 own5 grow5 far5;have lT:∀g,(Value.slice ta s.H.length tc).ownBlock=some g→g<V.heap.size:=fun g hg=>(za HLH g hg).2;have X5:=X4.grown grow5 (fun e=>by have :=lT X e.symm;omega);have Y5:=Y4.grown grow5 (fun e=>by have :=lT Y e.symm;omega)
  obtain ⟨ta',tc',hv'⟩:∃ta' tc',v'= .slice ta' (s.H.length+1) tc':=by
   rcases own5.2 with ⟨-,h0⟩|⟨g,cap,cur,e, -⟩
   ·omega
   ·exact ⟨_,_,e⟩
  subst hv'
  have O5:Mem.own3 67 Pl.Hn.cs D2 W1.heap.size (.slice ta' (s.H.length+1) tc') (s.H++[⟨s.next,m.i,RT⟩]):=by
   unfold Mem.own3;rw [Pl.zt5,Pl.zr9,List.length_append];exact own5
  have HB5:Hid (∀b,b<Y→b≠X→(Value.slice ta s.H.length tc).ownBlock≠some b→D2.heap[b]? =w.heap[b]?):=hide (fun b hb hne hno=>(grow5.block b (by omega) (fun e=>hno e.symm)).trans (za HB4 b hb hne));have HO6:Hid (D2.os=w.os∧D2.tape=w.tape∧D2.output=w.output):=hide ⟨grow5.os.trans (za HO5).1,grow5.tape.trans (za HO5).2.1,grow5.output.trans (za HO5).2.2⟩;have hs5:Y+2≤D2.heap.size:=by have :=grow5.size;omega
  have HF5:Hid (∀g,(Value.slice ta' (s.H.length+1) tc').ownBlock=some g→(Value.slice ta s.H.length tc).ownBlock=some g∨Y+2≤g):=hide (fun g hg=>by have :=far5 g hg;rw [hs4] at this;exact this);refine hK.out _ _ ?_ (fun hHeld=>?_)
  ·exact za MK _ Y5
  clear hK K own5 grow5 far5 X4 Y4 O4 Z4 HB4 HO5 hnew
  try simp only [Act.put,kBs]
  refine TB 14 ?_;refine TB 15 ?_;refine RN 16 fun K hK=>?_;have x2:=X5.cell 2;have fx2:=X5.fr 2;simp only [kGs] at x2;go_simp
  have X6:=X5.put 2 (.slice ta' (s.H.length+1) tc');have Y6:=Y5.far ⟨X,2,none⟩ (.slice ta' (s.H.length+1) tc') (by show Y≠X;omega)
  have O6:=Mem.zb2 O5 ⟨X,2,none⟩ (.slice ta' (s.H.length+1) tc') (fun g hg e=>by
   have e2:X=g:=e;have hg2:(Value.slice ta' (s.H.length+1) tc').ownBlock=some g:=hg
   rcases za HF5 g hg2 with h|h
   ·have :=lT g h;omega
   ·omega)
  simp only [kB3,kB4,kB5] at X6;have HB6:Hid (∀b,b<Y→b≠X→(Value.slice ta s.H.length tc).ownBlock≠some b→(D2.setCell ⟨X,2,none⟩ (.slice ta' (s.H.length+1) tc')).heap[b]? =w.heap[b]?):=hide (fun b hb hne hno=>(heap_setCell_other _ _ _ _ (by show b≠X;exact hne)).trans (za HB5 b hb hne hno));have HO7:Hid ((D2.setCell ⟨X,2,none⟩ (.slice ta' (s.H.length+1) tc')).os=w.os∧(D2.setCell ⟨X,2,none⟩ (.slice ta' (s.H.length+1) tc')).tape=w.tape∧(D2.setCell ⟨X,2,none⟩ (.slice ta' (s.H.length+1) tc')).output=w.output):=za HO6 |> hide;have hs6:Y+2≤(D2.setCell ⟨X,2,none⟩ (.slice ta' (s.H.length+1) tc')).heap.size:=by rw [World.size_setCell];exact hs5
  refine hK.out _ _ ?_ (fun hHeld=>?_)
  ·exact za MK _ Y6
  clear hK K X5 Y5 O5 HB5 HO6 hs5 x2 fx2 MK
  try simp only [Act.put,kBs]
  refine wpAnyH_done (by kernel_rfl) ?_ _;generalize D2.setCell ⟨X,2,none⟩ (.slice ta' (s.H.length+1) tc')=D3 at X6 Y6 O6 HB6 HO7 hs6 ⊢;have HX6:=hide X6;have HO6:=hide O6;clear X6 Y6 O6 hHeld;go_wp2
  go_ret
  have hYE:=za HYE;have lH:=za HLH;refine ⟨rfl,ta',tc',za HX6,?_,?_⟩
  ·refine (za HG).more ⟨s.next,m.i,RT⟩ (s.next+1) (by omega) (fun b hb hno=>?_) (za HO6) (fun g hg=>?_)
   ·rw [za HB6 b (by omega) (by omega) hno];exact (za HBV).block b hb
   ·rcases za HF5 g hg with h|h
    ·exact .inl h
    ·exact .inr (by omega)
  ·refine ⟨(za HO7).1,(za HO7).2.1,(za HO7).2.2,by omega,fun b hb hne hh=>za HB6 b (by omega) hne (fun e=>?_)⟩;have :=lH b e;omega
end WSpI
end
section
open Go.RowKit Go.Maps
namespace WMt
set_option linter.unusedSimpArgs false in
set_option maxRecDepth 100000 in
set_option maxHeartbeats 800000 in
theorem number_any (X q:Nat) (next :Int) (va vb:Value) (w:World) (h0:0≤next) (h1:next <9223372036854775807) (hX:Mem.Blk w X #[.map (some q),va,vb, .int .i64 next] 73):
  Calls Tryz.prog 72 #[.pointer (some ⟨X,0,none⟩)] w fun e w'=>e= .returned (.int .i64 next)∧w'=w.setCell ⟨X,3,none⟩ (.int .i64 (next +1)):=by
 have x3:=hX.cell 3;have fx3:=hX.fr 3;have l1:next +1<9223372036854775808:=by omega
 have l2: -9223372036854775808≤next +1:=by omega
 simp only [kGs] at x3;clear hX;go_enter Tryz.func72,Tryz.ntmps72
 go_wp2
 go_ret
 exact ⟨rfl,rfl⟩
end WMt
end
section
open Go.RowKit Go.Maps
namespace WSpI
theorem open_told (s:Pl.Sp) (m:Pl.Mn) (RT:ByteArray) (hsm:s.N.length≤12∧s.M.length≤6∧s.H.length<6∧(∀x∈s.N,x.Is.length≤12)∧(s.N.map (·.d)).Pairwise (· < ·)∧(∀d∈s.N.map (·.d),MapI.i64 d)) (hnx:0≤s.next∧s.next≤1000000) (hmp:∀m∈s.M,m.p.size≤1048576) (hhp:∀m∈s.H,m.p.size≤1048576) (hrt:RT.size≤1048576)
  (V:World) (q:Nat) (E:List (Int × Pl.Nv)) (sa ta:Option Addr) (sc tc B X:Nat) (W:World) (hG:SpO.SpV B V s q E sa sc ta tc) (b:Below V.heap.size V W) (hX:V.heap.size≤X) (hB:Mem.Blk W X #[.map (some q), .slice sa s.M.length sc, .slice ta s.H.length tc, .int .i64 s.next] 73):
  Calls Tryz.prog 35 #[.pointer (some ⟨X,0,none⟩), .agg #[.string m.p, .int .i64 m.i, .bool m.z, .string RT]] W fun e w'=>e= .returned (.int .i64 s.next)∧∃ta' tc',Mem.Blk w' X #[.map (some q), .slice sa s.M.length sc, .slice ta' (s.H.length+1) tc', .int .i64 (s.next+1)] 73∧Hid (∀W,Below w'.heap.size w' W→Calls Tryz.prog 36 #[.agg #[.map (some q), .slice sa s.M.length sc, .slice ta' (s.H.length+1) tc', .int .i64 (s.next+1)]] W fun e w'=>(∃u S1 S2 S3 lo hi,e= .returned (.agg u.cs)∧SpO.Told W w' ⟨s.ia,s.ic,s.N,s.ma,s.mc,s.M,s.ha,s.hc,s.H++[⟨s.next,m.i,RT⟩],s.next+1⟩ u S1 S2 S3 lo hi)∧Below W.heap.size W w')∧Mem.Out B V.heap.size X W w':=by
 obtain ⟨k1,k2,k3,k4,k5,hi⟩:=hsm;refine (openH_any s q E sa ta sc tc B X m RT V W hG b hX hB (by omega) (fun va vb w hb=>WMt.number_any X q s.next va vb w hnx.1 (by omega) hb)).mono ?_;rintro e w' ⟨rfl,ta',tc',h1,h2,h3⟩;refine ⟨rfl,ta',tc',h1,hide (fun W bW=>?_),h3⟩;have hS:=h2.call bW;have hl:(s.H++[(⟨s.next,m.i,RT⟩:Pl.Hn)]).length=s.H.length+1:=by simp
 have ht:=told_any ⟨s.ia,s.ic,s.N,s.ma,s.mc,s.M,s.ha,s.hc,s.H++[⟨s.next,m.i,RT⟩],s.next+1⟩ q _ sa ta' sc tc' B W hS k1 k2 (by show (s.H++[(⟨s.next,m.i,RT⟩:Pl.Hn)]).length≤6;omega) k5 hi k4 hmp (fun h hh=>by
  rcases List.mem_append.1 hh with h1|h1
  ·exact hhp h h1
  ·rw [List.mem_singleton.1 h1];exact hrt)
 simp only [hl] at ht;exact ht
set_option linter.unusedSimpArgs false in
set_option maxRecDepth 100000 in
set_option maxHeartbeats 4000000 in
theorem openI_any (s:Pl.Sp) (p:ByteArray) (w:World) (hp:p.size≤1048576) (hok:zb0.OkS s 1048576) (hn:OkN s) (ha:OkA s) (hv:Mem.zc9 w s)
  (hV:∀ (r:Nat) t,codes[r]? =some t→w.cell? ⟨2,r,none⟩=some (.int .i64 t))
  (r0 r1 r2 r3:TypeId) (x0 x1 x2 x3:Value) (hE:zj6.zu9 w r0 r1 r2 r3 x0 x1 x2 x3) (A:Pl.Ao) (hA:Pl.zp1 s p (Pl.zc2 s.next (s.N.map WSp.nr) s.M s.H Pl.wayB)=A):
  Calls Tryz.prog 8 #[.agg s.cs, .string p] w fun e w'=>(∃u S1 S2 S3 HH lo hi,e= .returned (.agg (WSpO.so u A.d A.p A.c))∧WSpO.An w' u S1 S2 S3 HH lo hi∧w.heap.size≤S1∧Pl.Fits u A)∧Below w.heap.size w w':=by
 generalize hlm:Pl.ze1 (Pl.uR p) s.M s.M.length=m;have HX:=hide (fun W (b:Below w.heap.size w W)=>at_any s p W hp hok hn ha (hv.call b) m hlm r0 r1 r2 r3 x0 x1 x2 x3 (hE.call b));have HRF:=hide (fun i c W (hc:codes[i]? =some c) (b:Below w.heap.size w W)=>refused_any i c W hc (zx0 hV b));have hmp:=hok.mp;have hhp:=hok.hp
 have HY:Hid (Pl.whyI p (Pl.zc2 s.next (s.N.map WSp.nr) s.M s.H Pl.wayB)=0→Pl.za0 (Pl.rest p m.p)=true∧(∃ (k:Nat) (x:Pl.Ns),s.N[k]? =some x∧x.d=m.i∧Pl.zn5 s p=Pl.zm3 (x.Is.map Pl.It.r) (Pl.rest p m.p)∧(Pl.nest (Pl.rowO (x.Is.map Pl.It.r))).isSome=true)∧(s.N.length≤12∧s.M.length≤6∧s.H.length≤6∧(∀x∈s.N,x.Is.length≤12)∧(s.N.map (·.d)).Pairwise (· < ·)∧(∀d∈s.N.map (·.d),MapI.i64 d))∧(0≤s.next∧s.next≤1000000)):=hide (fun h=>by
  rcases Pl.zs8 p (Pl.zc2 s.next (s.N.map WSp.nr) s.M s.H Pl.wayB) with ⟨-,h1,h2⟩|h1|h1
  ·obtain ⟨k1,k2,k3,k4,k5,k6,k7,k8⟩:=Pl.zq1 h1;have hl:=(Pl.lead_of h1 p h2).2.1;rw [hlm] at hl;obtain ⟨k,x,e1,e2,e3, -⟩:=Pl.yk7 h1 hl;refine ⟨Pl.yf h2 m.p,⟨k,x,e1,e2,?_,Pl.yh7 h1 x (List.mem_of_getElem? e1)⟩,⟨k1,k2,k3,fun x hx=>(k4 x hx).1,k5,fun d hd=>by have :=k6 d hd;unfold MapI.i64;omega⟩,by omega,k8⟩;unfold Pl.zn5;rw [hlm,e3];rfl
  ·rw [h1] at h;cases h
  ·rw [h1] at h;cases h)
 have HAG:Hid (Pl.whyI p (Pl.zc2 s.next (s.N.map WSp.nr) s.M s.H Pl.wayB)=0→A=if Pl.zi3 (Pl.zn5 s p) s.H.length s.next=0 then ⟨s.N.map Pl.Ns.r,s.M,s.H++[⟨s.next,m.i,Pl.rest p m.p⟩],s.next+1,s.next,⟨#[]⟩,0⟩ else Pl.Ao.ill (Pl.codeO (Pl.zi3 (Pl.zn5 s p) s.H.length s.next))):=hide (fun h=>by rw [←hA];unfold Pl.zp1;rw [if_pos h,hlm])
 have HAB:Hid (Pl.whyI p (Pl.zc2 s.next (s.N.map WSp.nr) s.M s.H Pl.wayB)≠0→∃ (i:Nat) (c:Int),Pl.whyI p (Pl.zc2 s.next (s.N.map WSp.nr) s.M s.H Pl.wayB)=(i:Int)∧i≠0∧codes[i]? =some c∧A=Pl.Ao.ill c):=hide (fun h=>by
  rw [←hA];unfold Pl.zp1;rw [if_neg h]
  rcases Pl.zs8 p (Pl.zc2 s.next (s.N.map WSp.nr) s.M s.H Pl.wayB) with ⟨h1, -⟩|h1|h1
  ·exact absurd h1 h
  ·exact ⟨1,2,h1,by decide,rfl,by rw [h1];rfl⟩
  ·exact ⟨2,1,h1,by decide,rfl,by rw [h1];rfl⟩)
 generalize Pl.zc2 s.next (s.N.map WSp.nr) s.M s.H Pl.wayB=RB at HX HY HAG HAB;have HWO:=hide (fun (k:Nat) (x:Pl.Ns) (V:World) (q:Nat) (E:List (Int × Pl.Nv)) sa ta sc tc B (hG:SpO.SpV B V s q E sa sc ta tc) h1 h2 h3 h4 h5 h6=>whyO_any s q E sa ta sc tc B m (Pl.rest p m.p) V hG h1 x k h2 h3 h4 h5 h6);have HOP:=hide (fun h1 h2 h3 V q E sa ta sc tc B X W hG b hX hB=>open_told s m (Pl.rest p m.p) h1 h2 hmp hhp h3 V q E sa ta sc tc B X W hG b hX hB);generalize Pl.zn5 s p=SO at HY HAG;unfold Spotted spot at HX;generalize Pl.rest p m.p=RT at HX HY HAG HWO HOP;clear hok hn ha hv hE hV hlm hA hmp hhp hp;obtain ⟨ia,ic,N,ma,mc,M,ha,hc,H,next⟩:=s;simp only at HX HY HAG HAB HWO HOP ⊢;unfold Pl.Sp.cs at HX;unfold Pl.Sp.cs;simp only at HX ⊢
 have b0:Below w.heap.size w ((w.alloc (.cells #[.slice ia N.length ic, .slice ma M.length mc, .slice ha H.length hc, .int .i64 next] 32)).alloc (.cells #[Value.slice none 0 0,Value.slice none 0 0,Value.slice none 0 0,Value.int .i64 0,Value.int .i64 0,Value.string ⟨#[]⟩,Value.int .i64 0] 34)):=(bE0).alloc (by simp) _;have V0:=hide ((Mem.Blk.new w #[.slice ia N.length ic, .slice ma M.length mc, .slice ha H.length hc, .int .i64 next] 32).alloc (.cells #[Value.slice none 0 0,Value.slice none 0 0,Value.slice none 0 0,Value.int .i64 0,Value.int .i64 0,Value.string ⟨#[]⟩,Value.int .i64 0] 34))
 have U0:=hide (Mem.Blk.new (w.alloc (.cells #[.slice ia N.length ic, .slice ma M.length mc, .slice ha H.length hc, .int .i64 next] 32)) #[Value.slice none 0 0,Value.slice none 0 0,Value.slice none 0 0,Value.int .i64 0,Value.int .i64 0,Value.string ⟨#[]⟩,Value.int .i64 0] 34);have hsz:((w.alloc (.cells #[.slice ia N.length ic, .slice ma M.length mc, .slice ha H.length hc, .int .i64 next] 32)).alloc (.cells #[Value.slice none 0 0,Value.slice none 0 0,Value.slice none 0 0,Value.int .i64 0,Value.int .i64 0,Value.string ⟨#[]⟩,Value.int .i64 0] 34)).heap.size=w.heap.size+2:=by simp
 rw [show (w.alloc (.cells #[.slice ia N.length ic, .slice ma M.length mc, .slice ha H.length hc, .int .i64 next] 32)).heap.size=w.heap.size+1 by simp] at U0;obtain ⟨a0,a1,a2,a3⟩:=jc4 (za V0);go_enter Tryz.func8,Tryz.ntmps8
 go_wp2_with fail
 generalize (w.alloc (.cells #[.slice ia N.length ic, .slice ma M.length mc, .slice ha H.length hc, .int .i64 next] 32)).alloc (.cells #[Value.slice none 0 0,Value.slice none 0 0,Value.slice none 0 0,Value.int .i64 0,Value.int .i64 0,Value.string ⟨#[]⟩,Value.int .i64 0] 34)=wA at b0 V0 U0 a0 a1 a2 a3 hsz ⊢;refine (za HX _ b0).mono ?_;rintro e w1 ⟨hS,bX⟩;have b1:=b0.trans (bX.mono b0.size);have U1:=hide ((za U0).call bX);have hA1:=bX.size;clear HX bX V0 a0 a1 a2 a3 b0 U0
 rcases hS with ⟨hW,q,E,sa,sc,ta,tc,rfl,HS⟩|⟨hW,rfl⟩
 ·obtain ⟨hRT,⟨k,x,hx,hxd,hSO,hnr⟩,hsm,hnx⟩:=za HY hW;have HAE:=hide (za HAG hW);have hi:MapI.i64 m.i:=hsm.2.2.2.2.2 m.i (by rw [←hxd];exact List.mem_map.2 ⟨x,List.mem_of_getElem? hx,rfl⟩);have b2:Below w1.heap.size w1 ((w1.alloc (.cells #[Value.map (some q),Value.slice sa M.length sc,Value.slice ta H.length tc,Value.int .i64 next] 73)).alloc (.cells #[Value.string m.p,Value.int .i64 m.i,Value.bool m.z,Value.string RT] 75)):=(bE0).alloc (by simp) _;have HWQ:=hide (za HWO k x _ q E sa ta sc tc _ (HS.call b2) hsm.2.2.2.2.1 hx hxd hi hnr hRT);rw [←hSO] at HWQ;have HCA:=hide (Pl.yb1 SO H.length next);have HOQ:=hide (fun (h6:H.length<6) X W=>za HOP ⟨hsm.1,hsm.2.1,h6,hsm.2.2.2.1,hsm.2.2.2.2.1,hsm.2.2.2.2.2⟩ hnx (by have :=Pl.zg5 hRT;omega) w1 q E sa ta sc tc _ X W HS);have hHl:H.length≤6:=hsm.2.2.1;have U2:=hide ((za U1).call b2)
  have X2:=hide ((Mem.Blk.new w1 #[Value.map (some q),Value.slice sa M.length sc,Value.slice ta H.length tc,Value.int .i64 next] 73).alloc (.cells #[Value.string m.p,Value.int .i64 m.i,Value.bool m.z,Value.string RT] 75));have Y2:Hid (Mem.Blk ((w1.alloc (.cells #[Value.map (some q),Value.slice sa M.length sc,Value.slice ta H.length tc,Value.int .i64 next] 73)).alloc (.cells #[Value.string m.p,Value.int .i64 m.i,Value.bool m.z,Value.string RT] 75)) (w1.heap.size+1) #[Value.string m.p,Value.int .i64 m.i,Value.bool m.z,Value.string RT] 75):=hide (Mem.zi w1 _ _);have bw2:=b1.trans (b2.mono b1.size);generalize Pl.zi3 SO H.length next =OW at HWQ HCA HAE;obtain ⟨x0,x1,x2,x3⟩:=jc4 (za X2);have y0:=(za Y2).cell 0;have y1:=(za Y2).cell 1
  have y2:=(za Y2).cell 2;have y3:=(za Y2).cell 3;simp only [kGs] at y0 y1 y2 y3;clear HY HAG HAB HWO HOP hRT hx hxd hSO hnr hsm hnx hi HS hW U1 b1;go_wp2_with fail
  generalize (w1.alloc (.cells #[Value.map (some q),Value.slice sa M.length sc,Value.slice ta H.length tc,Value.int .i64 next] 73)).alloc (.cells #[Value.string m.p,Value.int .i64 m.i,Value.bool m.z,Value.string RT] 75)=w2 at b2 HWQ U2 X2 Y2 bw2 x0 x1 x2 x3 y0 y1 y2 y3 ⊢;refine (za HWQ).mono ?_;rintro e w3 ⟨rfl,b3⟩;have U3:=hide ((za U2).call b3);have X3:=hide ((za X2).call b3);have Y3:=hide ((za Y2).call b3);have bv3:=b2.trans (b3.mono b2.size);have bw3:=bw2.trans (b3.mono bw2.size);clear HWQ U2 X2 Y2 bw2 b2 b3 x0 x1 x2 x3 y0 y1 y2 y3;by_cases hOW:OW=0
  ·have hH6:H.length<6:=by
    rcases za HCA with ⟨-,n, -, -,h, -⟩|⟨h, -⟩|⟨h, -⟩|⟨h, -⟩
    ·omega
    all_goals (rw [h] at hOW;exact absurd hOW (by decide))
   have HA:=hide (za HAE);rw [if_pos hOW] at HA;have HS1:=hide (za HOQ hH6);subst hOW;obtain ⟨y0,y1,y2,y3⟩:=jc4 (za Y3);clear HCA HAE HRF HOQ;go_wp2_with fail
   refine (za HS1 _ _ bv3 (Nat.le_refl _) (za X3)).mono ?_;rintro e w5 ⟨rfl,ta',tc',X5,HTO,O5⟩;have X5:=hide X5;have hU3:=(za U3).lt;have U5:=hide (O5.blk (za U3) (by omega) (.inl (by omega)));have b5:=bw3.trans ((O5.below hA1 (by have :=bw3.size;have :=bv3.size;omega)).mono (by omega));clear HS1 U3 X3 Y3 bv3 bw3 O5 y0 y1 y2 y3;obtain ⟨x0,x1,x2,x3⟩:=jc4 (za X5);go_wp2_with fail
   refine (za HTO _ (Below.refl _ _)).mono ?_;rintro e wX ⟨⟨u,T1,T2,T3,lo,hi,rfl,HTD⟩,bX⟩;have HFT:=hide (⟨HTD.n,HTD.m,HTD.h,HTD.x⟩:_∧_∧_∧_);have hS1:w.heap.size+1<min T1 wX.heap.size:=by have :=HTD.s1;have :=bX.size;have :=(za U5).lt;omega
   have HAN:=hide (WSpO.An.ofT HTD);clear HTD;have bF:=hide (b5.trans (bX.mono b5.size));have UF:=hide ((za U5).call bX);clear bX;generalize min T1 wX.heap.size=S1 at HAN hS1;generalize min T2 wX.heap.size=S2 at HAN;generalize min T3 wX.heap.size=S3 at HAN;generalize hHH:wX.heap.size=HH at HAN;clear hHH;obtain ⟨ui,uc,uN,um,umc,uM,uh,uhc,uH,ux⟩:=u;unfold Pl.Sp.cs;simp only at HAN HFT ⊢;obtain ⟨⟨d0,d1,d2,d3,d4,d5,d6⟩,fd0,fd1,fd2,fd3,fd4,fd5,fd6⟩:=jf7 (za UF);go_wp2
   refine bodyPost_ret (v:= .agg #[Value.slice ui uN.length uc,Value.slice um uM.length umc,Value.slice uh uH.length uhc,Value.int .i64 ux,Value.int .i64 next,Value.string ⟨#[]⟩,Value.int .i64 0]) (by simp [results,Tryz.results8,go_sem,d0,d1,d2,d3,d4,d5,d6]) rfl ⟨⟨_,S1,S2,S3,HH,lo,hi,by rw [za HA];rfl,((((((((za HAN).far (Y:=w.heap.size+1) 0 (Value.slice ui uN.length uc) (by omega)).far (Y:=w.heap.size+1) 1 (Value.slice um uM.length umc) (by omega)).far (Y:=w.heap.size+1) 2 (Value.slice uh uH.length uhc) (by omega)).far (Y:=w.heap.size+1) 3 (Value.int .i64 ux) (by omega)).far (Y:=w.heap.size+1) 4 (Value.int .i64 next) (by omega)).far (Y:=w.heap.size+1) 5 (Value.string ⟨#[]⟩) (by omega)).far (Y:=w.heap.size+1) 6 (Value.int .i64 0) (by omega)),by omega,by rw [za HA];exact ⟨(za HFT).1,(za HFT).2.1,(za HFT).2.2.1,(za HFT).2.2.2⟩⟩,?_⟩
   exact sc7 (za bF) (by omega)
  ·have HB:Hid (∃ (i:Nat) (c:Int),OW=(i:Int)∧i≠0∧codes[i]? =some c∧A=Pl.Ao.ill c):=hide (by
    have hAE:=za HAE;rw [if_neg hOW] at hAE
    rcases za HCA with ⟨h, -⟩|⟨h, -⟩|⟨h, -⟩|⟨h, -⟩
    ·exact absurd h hOW
    ·exact ⟨4,6,h,by decide,rfl,by rw [hAE,h];rfl⟩
    ·exact ⟨6,11,h,by decide,rfl,by rw [hAE,h];rfl⟩
    ·exact ⟨8,9,h,by decide,rfl,by rw [hAE,h];rfl⟩)
   obtain ⟨r,c,hr,hr0,hrc,hrA⟩:=za HB;subst hr;have HA:=hide hrA;have HC:=hide (fun W b=>za HRF r c W hrc b);clear HB hrA hrc HRF HCA HAE HOQ X3 Y3 bv3 hOW;have z1:((r:Int)==0)=false:=by rw [beq_eq_false_iff_ne];omega
   have z2:decide ((r:Int)=0)=false:=by rw [decide_eq_false_iff_not];omega
   have z3:¬ ((r:Int)=0):=by omega
   go_wp2_with fail
   refine (za HC _ bw3).mono ?_;rintro e wR ⟨rfl,bX⟩;have bR:=bw3.trans (bX.mono bw3.size);have UR:=hide ((za U3).call bX);clear bX;obtain ⟨⟨d0,d1,d2,d3,d4,d5,d6⟩,fd0,fd1,fd2,fd3,fd4,fd5,fd6⟩:=jf7 (za UR);go_wp2
   refine bodyPost_ret (v:= .agg #[Value.slice none 0 0,Value.slice none 0 0,Value.slice none 0 0,Value.int .i64 0,Value.int .i64 0,Value.string ⟨#[]⟩,Value.int .i64 c]) (by simp [results,Tryz.results8,go_sem,d0,d1,d2,d3,d4,d5,d6]) rfl ⟨⟨⟨none,0,[],none,0,[],none,0,[],0⟩,_,_,_,_,_,_,by rw [za HA];rfl,WSpO.An.nil _ w.heap.size ?_,Nat.le_refl _,by rw [za HA];exact Pl.Fits.nil _⟩,?_⟩
   ·simp only [World.size_setCell];exact bR.size
   ·exact sc7 bR (by omega)
 ·obtain ⟨r,c,hr,hr0,hrc,hrA⟩:=za HAB hW;have HA:=hide hrA;have HC:=hide (fun W b=>za HRF r c W hrc b);rw [hr];clear HAB HAG HY HWO HOP hrA hrc HRF hW hr;have z1:((r:Int)==0)=false:=by rw [beq_eq_false_iff_ne];omega
  have z2:decide ((r:Int)=0)=false:=by rw [decide_eq_false_iff_not];omega
  have z3:¬ ((r:Int)=0):=by omega
  have b2:Below w1.heap.size w1 ((w1.alloc (.cells #[.map none, .slice none 0 0, .slice none 0 0, .int .i64 0] 73)).alloc (.cells #[.string ⟨#[]⟩, .int .i64 0, .bool false, .string ⟨#[]⟩] 75)):=(bE0).alloc (by simp) _;have U2:=hide ((za U1).call b2);have b3:=b1.trans (b2.mono b1.size);clear U1 b1 b2;go_wp2_with fail
  generalize (w1.alloc (.cells #[.map none, .slice none 0 0, .slice none 0 0, .int .i64 0] 73)).alloc (.cells #[.string ⟨#[]⟩, .int .i64 0, .bool false, .string ⟨#[]⟩] 75)=w2 at U2 b3 ⊢;refine (za HC _ b3).mono ?_;rintro e wR ⟨rfl,bX⟩;have bR:=b3.trans (bX.mono b3.size);have UR:=hide ((za U2).call bX);clear bX;obtain ⟨⟨d0,d1,d2,d3,d4,d5,d6⟩,fd0,fd1,fd2,fd3,fd4,fd5,fd6⟩:=jf7 (za UR);go_wp2
  refine bodyPost_ret (v:= .agg #[Value.slice none 0 0,Value.slice none 0 0,Value.slice none 0 0,Value.int .i64 0,Value.int .i64 0,Value.string ⟨#[]⟩,Value.int .i64 c]) (by simp [results,Tryz.results8,go_sem,d0,d1,d2,d3,d4,d5,d6]) rfl ⟨⟨⟨none,0,[],none,0,[],none,0,[],0⟩,_,_,_,_,_,_,by rw [za HA];rfl,WSpO.An.nil _ w.heap.size ?_,Nat.le_refl _,by rw [za HA];exact Pl.Fits.nil _⟩,?_⟩
  ·simp only [World.size_setCell];exact bR.size
  ·exact sc7 bR (by omega)
end WSpI
end
section
open Go.RowKit
namespace Pl
theorem under_root {p t:ByteArray} (h:by_ t=[]):under p t=true:=(zl7 p t).2 (.inl h)
theorem under_same (p:ByteArray):under p p=true:=(zl7 p p).2 (.inr (.inl rfl))
theorem under_short {p t:ByteArray} (h0:by_ t≠[]) (h1:p≠t) (h:¬t.size<p.size):under p t=false:=by
 rw [Bool.eq_false_iff];intro h2
 rcases (zl7 p t).1 h2 with h3|h3|⟨r,h3⟩
 ·exact h0 h3
 ·exact h1 (zf5 h3)
 ·have :=congrArg List.length h3;rw [zd2,List.length_append,List.length_cons,zd2] at this;omega
theorem by_pre (p t:ByteArray):by_ (p.extract 0 t.size)=(by_ p).take t.size:=by rw [zs4];simp
theorem under_other {p t:ByteArray} (h0:by_ t≠[]) (h1:p≠t) (h:p.extract 0 t.size≠t):under p t=false:=by
 rw [Bool.eq_false_iff];intro h2
 rcases (zl7 p t).1 h2 with h3|h3|⟨r,h3⟩
 ·exact h0 h3
 ·exact h1 (zf5 h3)
 ·apply h;apply zf5;rw [by_pre,h3,←zd2,List.take_left]
theorem pre_split {p t:ByteArray} (hl:t.size<p.size) (h:p.extract 0 t.size=t):by_ p=by_ t++p[t.size]::(by_ p).drop (t.size+1):=by
 have h1:by_ t=(by_ p).take t.size:=by rw [←by_pre,h]
 have h2:t.size<(by_ p).length:=by rw [zd2];exact hl
 have h3:(by_ p).drop t.size=p[t.size]::(by_ p).drop (t.size+1):=by rw [List.drop_eq_getElem_cons h2];rfl
 exact (List.take_append_drop t.size (by_ p)).symm.trans (by rw [h3,←h1];rfl)
theorem under_yes {p t:ByteArray} (hl:t.size<p.size) (h:p.extract 0 t.size=t) (hb:p[t.size].toNat=47):under p t=true:=by
 refine (zl7 p t).2 (.inr (.inr ⟨(by_ p).drop (t.size+1),?_⟩));have hb':p[t.size]=47:=UInt8.toNat_inj.1 hb;rw [←hb'];exact pre_split hl h
theorem under_no {p t:ByteArray} (h0:by_ t≠[]) (h1:p≠t) (hl:t.size<p.size) (h:p.extract 0 t.size=t) (hb:p[t.size].toNat≠47):under p t=false:=by
 rw [Bool.eq_false_iff];intro h2
 rcases (zl7 p t).1 h2 with h3|h3|⟨r,h3⟩
 ·exact h0 h3
 ·exact h1 (zf5 h3)
 ·rw [pre_split hl h] at h3;have :=List.append_cancel_left h3;simp at this
  exact hb (by rw [this.1];rfl)
end Pl
namespace zf3
set_option maxRecDepth 100000 in
set_option maxHeartbeats 400000 in
theorem under1_any (p t:ByteArray) (w:World) (ht:t.size≤1048576):
  Calls Tryz.prog 60 #[.string p, .string t] w fun e w'=>e= .returned (.bool (Pl.under p t))∧w'=w:=by
 by_cases h0:Pl.by_ t=[]
 ·have E:=hide (Pl.under_root (p:=p) h0);have d1:t.toList.isEmpty=true:=by rw [Pl.zc0];simp [h0]
  clear h0;go_enter Tryz.func60,Tryz.ntmps60
  go_wp2
  go_ret
  exact ⟨za2 (za E).symm,rfl⟩
 have d1:t.toList.isEmpty=false:=by rw [Pl.zc0];simp [h0]
 by_cases h1:p=t
 ·subst h1;have E:=hide (Pl.under_same p);clear h0;go_enter Tryz.func60,Tryz.ntmps60
  go_wp2
  go_ret
  exact ⟨za2 (za E).symm,rfl⟩
 have d2:=Pl.zl0 h1;by_cases hl:t.size<p.size
 ·have k1:(t.size:Int)<(p.size:Int):=by omega
  have k2:(t.size:Int)≤(p.size:Int):=by omega
  have k3:(0:Int)≤(t.size:Int):=by omega
  by_cases h3:p.extract 0 t.size=t
  ·have d3:=Pl.zu3 h3;by_cases h4:p[t.size].toNat=47
   ·have E:=hide (Pl.under_yes hl h3 h4);have d4:((p[t.size].toNat:Int)==47)=true:=by rw [beq_iff_eq];omega
    clear h0 h1 h3 h4;go_enter Tryz.func60,Tryz.ntmps60
    go_wp2
    go_ret
    exact ⟨za2 (za E).symm,rfl⟩
   ·have E:=hide (Pl.under_no h0 h1 hl h3 h4);have d4:((p[t.size].toNat:Int)==47)=false:=by rw [beq_eq_false_iff_ne];omega
    clear h0 h1 h3 h4;go_enter Tryz.func60,Tryz.ntmps60
    go_wp2
    go_ret
    exact ⟨za2 (za E).symm,rfl⟩
  ·have E:=hide (Pl.under_other h0 h1 h3);have d3:=Pl.zl0 h3;clear h0 h1 h3;go_enter Tryz.func60,Tryz.ntmps60
   go_wp2
   go_ret
   exact ⟨za2 (za E).symm,rfl⟩
 ·have E:=hide (Pl.under_short h0 h1 hl);have k1:¬ (t.size:Int)<(p.size:Int):=by omega
  clear h0 h1;go_enter Tryz.func60,Tryz.ntmps60
  go_wp2
  go_ret
  exact ⟨za2 (za E).symm,rfl⟩
end zf3
end
section
open Go.RowKit
namespace zf3
theorem rest1_any (p n:ByteArray) (w:World) (hp:p.size≤1048576) (hu:Pl.under p n=true):
  Calls Tryz.prog 61 #[.string p, .string n] w fun e w'=>e= .returned (.string (Pl.rest p n))∧w'=w:=by
 by_cases h0:Pl.by_ n=[]
 ·have E:=hide (Pl.rest_root (p:=p) h0);have d1:n.toList.isEmpty=true:=by rw [Pl.zc0];simp [h0]
  clear h0 hu;go_enter Tryz.func61,Tryz.ntmps61
  go_wp2
  go_ret
  exact ⟨zt3 (za E).symm,rfl⟩
 have d1:n.toList.isEmpty=false:=by rw [Pl.zc0];simp [h0]
 by_cases h1:p=n
 ·subst h1;have E:=hide (Pl.rest_same p);clear h0 hu;go_enter Tryz.func61,Tryz.ntmps61
  go_wp2
  go_ret
  exact ⟨zt3 (za E).symm,rfl⟩
 ·have d2:=Pl.zl0 h1
  obtain ⟨r,hr⟩:∃r,Pl.by_ p=Pl.by_ n++47::r:=by
   rcases (Pl.zl7 p n).1 hu with h3|h3|h3
   ·exact absurd h3 h0
   ·exact absurd (Pl.zf5 h3) h1
   ·exact h3
  have E:=hide (Pl.rest_more h0 hr)
  have hsz:n.size+1≤p.size:=by
   have :=congrArg List.length hr;rw [Pl.zd2,List.length_append,List.length_cons,Pl.zd2] at this;omega
  have k1:(0:Int)≤(n.size:Int)+1:=by omega
  have k2:(n.size:Int)+1≤(p.size:Int):=by omega
  clear h0 h1 hr hu;generalize Pl.rest p n=R at E ⊢;go_enter Tryz.func61,Tryz.ntmps61
  go_wp2
  go_ret
  exact ⟨by rw [za E];rfl,rfl⟩
end zf3
end
end Go.Proofs.YtkighhofjmginaaGreatDoor
