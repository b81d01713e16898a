/- Several texts of one claim in one file: WSpN1, MemApp2. -/
import Derived.Test.YtggadpalljhiaaaGreatDoorG05
import Derived.Test.YtggadpalljhiaaaGreatDoorMemSpO
import Derived.Test.YtggadpalljhiaaaGreatDoorG10
import Derived.Deep.Upon
import Derived.Deep.Cut
import Derived.Test.YtggadpalljhiaaaGreatDoorG04
namespace Go.Proofs.YtggadpalljhiaaaGreatDoor
section
set_option linter.unusedSimpArgs false
open Go.RowKit Go.Maps
theorem step_put {H:Type} {P:Program} {ops:Array Oper} {o:Oper} {a:Act} {w:World} {K:Act→World→Prop} {Q:Exit→Act→World→Prop} {E:Prop}
  (hg:o.guard=none) (m x v:Operand) (t:TypeId) (hop:o.op=Op.mapUpdate t m x v)
  (k e:TypeId) (L:Keyed P k) (ht:P.underlying t=some (.map k e)) (R:Value→Option (DataW H × List MemPlace)) (b n:Nat) (D:DataW H)
  (hm:a.eval m= .map (some b)) (hown:w.ownsMap P k R b n D) (hn:n<maxLen) (key val:Value) (kl:Lit) (hx:a.eval x=key) (hv:a.eval v=val) (hkey:keyOf P k key=some kl)
  (d:DataW H) (ps:List MemPlace) (hval:R val=some (d,ps))
  (hK:∀w',w'.ownsMap P k R b (n+1) (D.put kl d)→w.grownBy w' (some b)→K (a.put o.dst undef) w'):
  if Region.wanted o (yielded ops a.tmps)=true then Oper.wp P o a w K Q else E:=by
 have hw:Region.wanted o (yielded ops a.tmps)=true:=by simp [Region.wanted,hg]
 rw [if_pos hw];obtain ⟨w',hrun,r1,r2⟩:=hown.update L ht hn hkey hval;unfold Oper.wp;simp [execOp,hop,hm,hx,hv,hrun,Result.andThen]
 exact hK w' r1 r2
namespace WSpN
set_option maxRecDepth 100000 in
set_option maxHeartbeats 800000 in
theorem number_any (X q:Nat) (w:World) (hX:Mem.Blk w X #[.map (some q), .slice none 0 0, .slice none 0 0, .int .i64 1] 72):
  Calls Tryz.prog 34 #[.pointer (some ⟨X,0,none⟩)] w fun e w'=>e= .returned (.int .i64 1)∧w'=w.setCell ⟨X,3,none⟩ (.int .i64 2):=by
 have x3:=hX.cell 3;have fx3:=hX.fr 3;simp only [kGs] at x3;clear hX;go_enter Tryz.func34,Tryz.ntmps34
 go_wp2
 go_ret
 exact ⟨rfl,rfl⟩
structure New1 (w W:World) (X q:Nat) (nv:Pl.Nv) (ma:Option Addr) (mc:Nat):Prop where
 x:Mem.Blk W X #[.map (some q), .slice ma 1 mc, .slice none 0 0, .int .i64 2] 72
 mo:W.ownsMap Tryz.prog 2 MapI.elem q 1 (MapI.mapOf (Pl.vals [((1:Int),nv)]))
 om:Mem.own3 51 Pl.Mn.cs W w.heap.size (.slice ma 1 mc) [⟨⟨#[]⟩,1,false⟩]
 os:W.os=w.os
 tape:W.tape=w.tape
 output:W.output=w.output
 size:w.heap.size≤W.heap.size
 block:∀b,b<w.heap.size→b≠X→b≠q→W.heap[b]? =w.heap[b]?
set_option maxRecDepth 100000 in
set_option maxHeartbeats 4000000 in
theorem mount_any (X q:Nat) (nv:Pl.Nv) (w:World) (hX:Mem.Blk w X #[.map (some q), .slice none 0 0, .slice none 0 0, .int .i64 1] 72) (hm:w.ownsMap Tryz.prog 2 MapI.elem q 0 (MapI.mapOf [])):
  Calls Tryz.prog 20 #[.pointer (some ⟨X,0,none⟩), .string ⟨#[]⟩, .agg #[.map nv.m, .int .i64 (nv.n:Int), .slice nv.a nv.n nv.cap]] w fun e w'=>e= .returned (.int .i64 1)∧∃ma mc,New1 w w' X q nv ma mc:=by
 obtain ⟨j0,hj0,hjz0,hjz1,hjz2⟩:=info_parts WSpI.infoMn
 have hXq:X≠q:=fun e=>by
  obtain ⟨es,cl,h9,_⟩:=hm;have h8:=hX;unfold Mem.Blk at h8;rw [e,h9] at h8;cases h8
 have hXw:=hX.lt;have hqw:=hm.lt;have b1:Below w.heap.size w (w.alloc (.cells #[.map nv.m, .int .i64 (nv.n:Int), .slice nv.a nv.n nv.cap] 64)):=(Below.refl _ _).alloc (Nat.le_refl _) _;have X1:=hX.call b1;have Y1:=Mem.Blk.new w #[.map nv.m, .int .i64 (nv.n:Int), .slice nv.a nv.n nv.cap] 64;have M1:=MapI.ze3 hm b1;have hs1:(w.alloc (.cells #[.map nv.m, .int .i64 (nv.n:Int), .slice nv.a nv.n nv.cap] 64)).heap.size=w.heap.size+1:=by simp
 have HN:=hide (number_any X q _ X1);have X2:=hide (X1.put 3 (.int .i64 2));have g2:(w.alloc (.cells #[.map nv.m, .int .i64 (nv.n:Int), .slice nv.a nv.n nv.cap] 64)).grownBy ((w.alloc (.cells #[.map nv.m, .int .i64 (nv.n:Int), .slice nv.a nv.n nv.cap] 64)).setCell ⟨X,3,none⟩ (.int .i64 2)) (some X):=⟨rfl,rfl,rfl,by rw [World.size_setCell];exact Nat.le_refl _,fun j _ hj=>heap_setCell_other _ _ _ _ (fun e=>hj (congrArg some e))⟩;have Y2:=hide (Y1.grown g2 (fun e=>by have :=Option.some.inj e;omega));have M2:=hide (M1.kept g2 (fun e=>hXq (Option.some.inj e).symm))
 have HB2:Hid (∀b,b<w.heap.size→b≠X→((w.alloc (.cells #[.map nv.m, .int .i64 (nv.n:Int), .slice nv.a nv.n nv.cap] 64)).setCell ⟨X,3,none⟩ (.int .i64 2)).heap[b]? =w.heap[b]?):=hide (fun b hb hne=>(heap_setCell_other _ _ _ _ (by show b≠X;exact hne)).trans (b1.block b hb));have HO2:Hid (((w.alloc (.cells #[.map nv.m, .int .i64 (nv.n:Int), .slice nv.a nv.n nv.cap] 64)).setCell ⟨X,3,none⟩ (.int .i64 2)).os=w.os∧((w.alloc (.cells #[.map nv.m, .int .i64 (nv.n:Int), .slice nv.a nv.n nv.cap] 64)).setCell ⟨X,3,none⟩ (.int .i64 2)).tape=w.tape∧((w.alloc (.cells #[.map nv.m, .int .i64 (nv.n:Int), .slice nv.a nv.n nv.cap] 64)).setCell ⟨X,3,none⟩ (.int .i64 2)).output=w.output):=hide ⟨rfl,rfl,rfl⟩
 have hs2:((w.alloc (.cells #[.map nv.m, .int .i64 (nv.n:Int), .slice nv.a nv.n nv.cap] 64)).setCell ⟨X,3,none⟩ (.int .i64 2)).heap.size=w.heap.size+1:=by rw [World.size_setCell,hs1]
 clear hX hm X1 Y1 M1 b1 g2 hs1;go_enter Tryz.func20,Tryz.ntmps20
 go_wp2_with fail
 refine (za HN).mono ?_;rintro e w2 ⟨rfl,hw2⟩;rw [←hw2] at X2 Y2 M2 HB2 HO2 hs2;clear hw2 HN;simp only [kB3,kB4,kB5] at X2;generalize hYe:w.heap.size=Y at *;have HYE:=hide hYe;clear hYe;go_upto_region 2 with fail
 have BD:Below w2.heap.size w2 w2.drew:=bD _;have X3:=(za X2).call BD;have Y3:=(za Y2).call BD;have M3:=MapI.ze3 (za M2) BD;have hkey:=MapI.zk1 (d:=1) (by unfold MapI.i64;omega);have MK:Hid (∀W',Mem.Blk W' X #[.map (some q), .slice none 0 0, .slice none 0 0, .int .i64 2] 72→Mem.Blk W' Y #[.map nv.m, .int .i64 (nv.n:Int), .slice nv.a nv.n nv.cap] 64→(W'.cell? ⟨X,0,none⟩=some (.map (some q))∧W'.cell? ⟨Y,0,none⟩=some (.map nv.m)∧W'.cell? ⟨Y,1,none⟩=some (.int .i64 (nv.n:Int))∧W'.cell? ⟨Y,2,none⟩=some (.slice nv.a nv.n nv.cap))):=fun W' h1 h2=>⟨h1.cell 0,h2.cell 0,h2.cell 1,h2.cell 2⟩;go_wp2_with fail
 refine wp_region_held_drew (S:=fun W'=>W'.cell? ⟨X,0,none⟩=some (.map (some q))∧W'.cell? ⟨Y,0,none⟩=some (.map nv.m)∧W'.cell? ⟨Y,1,none⟩=some (.int .i64 (nv.n:Int))∧W'.cell? ⟨Y,2,none⟩=some (.slice nv.a nv.n nv.cap)) (by kernel_rfl) ?_ (fun hHeld=>?_)
 ·exact za MK _ X3 Y3
 have HB3:Hid (∀b,b<Y→b≠X→w2.drew.heap[b]? =w.heap[b]?):=za HB2;have HO3:Hid (w2.drew.os=w.os∧w2.drew.tape=w.tape∧w2.drew.output=w.output):=za HO2;have hs3:w2.drew.heap.size=Y+1:=hs2;generalize w2.drew=D0 at hHeld X3 Y3 M3 HB3 HO3 hs3 ⊢;clear X2 Y2 M2 HB2 HO2 hs2 BD;refine TB 0 ?_;refine TB 1 ?_;refine TB 2 ?_;refine TB 3 ?_;refine TB 4 ?_;refine TB 5 ?_;refine RN 6 fun K hK=>?_;refine step_put rfl _ _ _ 70 rfl 2 64 MapI.law Tryz.underlying70 _ q 0 _ rfl M3 (by unfold maxLen;omega) _ _ _ rfl rfl hkey _ [] (MapI.zn8 (.agg #[.map nv.m, .int .i64 (nv.n:Int), .slice nv.a nv.n nv.cap])) ?_;intro wD hownD hgrowD;have X4:=X3.grown hgrowD (fun e=>hXq (Option.some.inj e))
 have Y4:=Y3.grown hgrowD (fun e=>by have :=Option.some.inj e;omega);have HB4:Hid (∀b,b<Y→b≠X→b≠q→wD.heap[b]? =w.heap[b]?):=hide (fun b hb h1 h2=>(hgrowD.block b (by omega) (fun e=>h2 (Option.some.inj e))).trans (za HB3 b hb h1));have HO4:Hid (wD.os=w.os∧wD.tape=w.tape∧wD.output=w.output):=hide ⟨hgrowD.os.trans (za HO3).1,hgrowD.tape.trans (za HO3).2.1,hgrowD.output.trans (za HO3).2.2⟩;have hs4:Y+1≤wD.heap.size:=by have :=hgrowD.size;omega
 have M4:Hid (wD.ownsMap Tryz.prog 2 MapI.elem q 1 (MapI.mapOf (Pl.vals [((1:Int),nv)]))):=hide hownD;have X4:=hide X4;have HMK:=hide (za MK _ (za X4) Y4);refine hK.out _ _ ?_ (fun hHeld=>?_)
 ·exact za HMK
 clear hK K hHeld
 try simp only [Act.put,kBs]
 refine wpAnyH_done (by kernel_rfl) ?_ _;clear hownD hgrowD X3 Y3 M3 HB3 HO3 hs3 MK HMK Y4 hkey;have x0:=(za X4).cell 0;have x1:=(za X4).cell 1;have x2:=(za X4).cell 2;have x3:=(za X4).cell 3;simp only [kB3,kB4,kB5,kGs] at x0 x1 x2 x3;have fx1:=(za X4).fr 1;have bA:Below wD.heap.size wD (wD.alloc (.cells #[.string ⟨#[]⟩, .int .i64 1, .bool false] 51)):=(Below.refl _ _).alloc (Nat.le_refl _) _;have OA:Hid (Mem.own3 51 Pl.Mn.cs (wD.alloc (.cells #[.string ⟨#[]⟩, .int .i64 1, .bool false] 51)) wD.heap.size (.slice none 0 0) []):=hide (Mem.zv0 _ _ _ _);have Z5:=Mem.Blk.new wD #[.string ⟨#[]⟩, .int .i64 1, .bool false] 51
 have hnew:∀j u,([.string ⟨#[]⟩, .int .i64 1, .bool false]:List Value)[j]? =some u→(wD.alloc (.cells #[.string ⟨#[]⟩, .int .i64 1, .bool false] 51)).cell? ((⟨wD.heap.size,0,none⟩:Addr).add j)=some u:=fun j u hj=>by
  rw [Mem.add_lit,Z5.cell j,List.getElem?_toArray];exact hj
 have HNW:=hide hnew;have X5:=hide ((za X4).call bA);have M5:=hide (MapI.ze3 (za M4) bA);have HB5:Hid (∀b,b<Y→b≠X→b≠q→(wD.alloc (.cells #[.string ⟨#[]⟩, .int .i64 1, .bool false] 51)).heap[b]? =w.heap[b]?):=hide (fun b hb h1 h2=>(bA.block b (by omega)).trans (za HB4 b hb h1 h2));have hs5:(wD.alloc (.cells #[.string ⟨#[]⟩, .int .i64 1, .bool false] 51)).heap.size=wD.heap.size+1:=by simp
 clear Z5 hnew bA;go_wp2_with (at_builtin;refine wpList_append_own _ rfl _ _ 25 rfl wD.heap.size 51 j0 _ 3 32 Tryz.underlying25 hj0 hjz0 hjz1 hjz2 rfl (by decide) _ _ _ rfl (za OA) ⟨wD.heap.size,0,none⟩ 1 1 [.string ⟨#[]⟩, .int .i64 1, .bool false] rfl rfl (za HNW) (by simp [Value.oneCell']) (by simp [maxLen]) (by simp) (by simp) ?_)
 intro v1 wE ownE growE _;obtain ⟨ma,mc,rfl⟩:=Mem.za4 ownE;have OE:Hid (Mem.own3 51 Pl.Mn.cs wE wD.heap.size (.slice ma 1 mc) [⟨⟨#[]⟩,1,false⟩]):=hide ownE;have X6:=hide ((za X5).grown growE (by simp [Value.ownBlock]));have M6:=hide ((za M5).kept growE (by simp [Value.ownBlock]));have HB6:Hid (∀b,b<Y→b≠X→b≠q→wE.heap[b]? =w.heap[b]?):=hide (fun b hb h1 h2=>(growE.block b (by omega) (by simp [Value.ownBlock])).trans (za HB5 b hb h1 h2));have HO6:Hid (wE.os=w.os∧wE.tape=w.tape∧wE.output=w.output):=hide ⟨growE.os.trans (za HO4).1,growE.tape.trans (za HO4).2.1,growE.output.trans (za HO4).2.2⟩;have hs6:Y+1≤wE.heap.size:=by have :=growE.size;omega
 clear ownE growE OA HNW X5 M5 HB5 hs5 X4 M4 HB4 HO4 x0 x1 x2 x3 fx1;have x0:=(za X6).cell 0;have x1:=(za X6).cell 1;have x2:=(za X6).cell 2;have x3:=(za X6).cell 3;simp only [kB3,kB4,kB5,kGs] at x0 x1 x2 x3;have fx1:=(za X6).fr 1;have X7:=hide ((za X6).put 1 (.slice ma 1 mc));have hXD:X<wD.heap.size:=by omega
 have O7:=hide (Mem.za9 (za OE) ⟨X,1,none⟩ (.slice ma 1 mc) (fun g hg=>by have :=(Mem.za5 (za OE) g hg).1;show X≠g;omega));have M7:Hid ((wE.setCell ⟨X,1,none⟩ (.slice ma 1 mc)).ownsMap Tryz.prog 2 MapI.elem q 1 (MapI.mapOf (Pl.vals [((1:Int),nv)]))):=hide ((za M6).kept (⟨rfl,rfl,rfl,by rw [World.size_setCell];exact Nat.le_refl _,fun j _ hj=>heap_setCell_other _ _ _ _ (fun e=>hj (congrArg some e))⟩:wE.grownBy (wE.setCell ⟨X,1,none⟩ (.slice ma 1 mc)) (some X)) (fun e=>hXq (Option.some.inj e).symm));have HB7:Hid (∀b,b<Y→b≠X→b≠q→(wE.setCell ⟨X,1,none⟩ (.slice ma 1 mc)).heap[b]? =w.heap[b]?):=hide (fun b hb h1 h2=>(heap_setCell_other _ _ _ _ (by show b≠X;exact h1)).trans (za HB6 b hb h1 h2));have HO7:Hid ((wE.setCell ⟨X,1,none⟩ (.slice ma 1 mc)).os=w.os∧(wE.setCell ⟨X,1,none⟩ (.slice ma 1 mc)).tape=w.tape∧(wE.setCell ⟨X,1,none⟩ (.slice ma 1 mc)).output=w.output):=hide (za HO6)
 have hs7:Y+1≤(wE.setCell ⟨X,1,none⟩ (.slice ma 1 mc)).heap.size:=by rw [World.size_setCell];omega
 have HYD:Hid (Y≤wD.heap.size):=hide (by omega);simp only [kB3,kB4,kB5] at X7;clear OE M6 HB6 HO6 hs6 X6;have HS:=hide (fun W=>WSort1.sort_any ma mc (.func (.func 36) #[] #[]) W);go_upto_region 4 with fail
 generalize wE.setCell ⟨X,1,none⟩ (.slice ma 1 mc)=w7 at X7 O7 M7 HB7 HO7 hs7 ⊢;clear x0 x1 x2 x3 fx1;have x0:=(za X7).cell 0;have x1:=(za X7).cell 1;have x2:=(za X7).cell 2;have x3:=(za X7).cell 3;simp only [kB3,kB4,kB5,kGs] at x0 x1 x2 x3;go_wp2_with fail
 refine (za HS _).mono ?_;rintro e w8 ⟨rfl,hw8⟩;subst hw8;clear HS x0 x1 x2 x3;go_wp2
 go_ret
 have hYe:=za HYE;subst hYe;exact ⟨rfl,ma,mc,za X7,za M7,Mem.zg5 (za O7) (za HYD),(za HO7).1,(za HO7).2.1,(za HO7).2.2,by omega,za HB7⟩
end WSpN
end
section
open Go.RowKit
namespace Mem
theorem zt8 {P:Program} (w:World) (base:Nat) (t ty e:TypeId) (i:TypeInfo) (z:Value) (size bytes:Nat) (ht:P.underlying t=some (.slice e)) (hi:P.info? e=some i) (hz:i.zero=some z)
  (hsize:i.size=size) (hby:i.bytes=bytes) (hzs:z.cells.size=size) (hsz:0<size)
  (v:Value) (n:Nat) (xs:List Value) (hown:w.ownsRow base e size v n xs)
  (a:Addr) (m c:Nat) (news:List Value) (hl:news.length=m*size) (hnews:∀j u,news[j]? =some u→w.cell? (a.add j)=some u) (h1:∀u∈news,u.oneCell'=true)
  (h63:n+m≤maxLen) (hbytes:(n+m)*bytes≤140737488355328) (hbase:base≤w.heap.size):
  ∃v' w',(Builtin.append_ #[t,t] ty #[v, .slice (some a) m c]).run P w= .ok v' w'∧w'.ownsRow base e size v' (n+m) (xs++news)∧w.grownBy w' v.ownBlock∧∀g,v'.ownBlock=some g→v.ownBlock=some g∨w.heap.size≤g:=by
 obtain ⟨v',w',hr,h2,h3, -⟩:=run_append_own (P:=P) w base t ty e i z size bytes ht hi hz hsize hby hzs hsz v n xs hown a m c news hl hnews h1 h63 hbytes hbase;refine ⟨v',w',hr,h2,h3,?_⟩
 rcases hown.2 with ⟨rfl,rfl⟩|⟨g,cap,cur,rfl,hbg,hg,hnc,hcm,hcs,htake⟩
 ·have hx:xs=[]:=List.eq_nil_of_length_eq_zero (by simpa using hown.1);subst hx;obtain ⟨v2,w2,hr2,k2, -, -⟩:=run_append_own (P:=P) w w.heap.size t ty e i z size bytes ht hi hz hsize hby hzs hsz _ 0 [] (World.ownsRow_nil w w.heap.size e size) a m c news hl hnews h1 h63 hbytes (Nat.le_refl _);rw [hr] at hr2;cases hr2
  exact fun g hg=> .inr (k2.lt g hg).1
 ·subst hsize hby
  by_cases hroom:n+m≤cap
  ·have hfit:n*i.size+news.length≤cur.size:=by rw [hl,hcs,←Nat.add_mul];exact Nat.mul_le_mul_right _ hroom
   rw [run_append_room (P:=P) w t ty e i ht hi g n cap cur hg a m c news hl hnews h1 hroom hfit] at hr;cases hr
   exact fun g hg=> .inl hg
  ·have holds:∀j u,xs[j]? =some u→w.cell? ((⟨g,0,none⟩:Addr).add j)=some u:=hown.cells (g:=g) rfl;have hsmall:n+m≤9223372036854775807:=by simp only [maxLen] at h63;omega
   rw [run_append_grow (P:=P) w t ty e i z ht hi hz ⟨g,0,none⟩ n cap xs hown.1 holds a m c news hl hnews (by omega) (by omega) (growslice_fits (by omega) hbytes)] at hr;cases hr
   intro g' hg';cases hg'
   exact .inr (Nat.le_refl _)
theorem zg1 {P:Program} (w:World) {ops:Array Oper} {rest:List Oper} {o:Oper} {a:Act} {Q:Exit→Act→World→Prop} (hgd:o.guard=none) (s x:Operand) (t:TypeId)
  (ho:o.op= .call { callee:= .builtin .append,args:=#[s,x],argTypes:=#[t,t] })
  (base:Nat) (e:TypeId) (i:TypeInfo) (z:Value) (size bytes:Nat) (ht:P.underlying t=some (.slice e)) (hi:P.info? e=some i) (hz:i.zero=some z)
  (hsize:i.size=size) (hby:i.bytes=bytes) (hzs:z.cells.size=size) (hsz:0<size)
  (v:Value) (n:Nat) (xs:List Value) (hs:a.eval s=v) (hown:w.ownsRow base e size v n xs)
  (ad:Addr) (m c:Nat) (news:List Value) (hx:a.eval x= .slice (some ad) m c) (hl:news.length=m*size) (hnews:∀j u,news[j]? =some u→w.cell? (ad.add j)=some u) (h1:∀u∈news,u.oneCell'=true)
  (h63:n+m≤maxLen) (hbytes:(n+m)*bytes≤140737488355328) (hbase:base≤w.heap.size)
  (h:∀v' w',w'.ownsRow base e size v' (n+m) (xs++news)→w.grownBy w' v.ownBlock→(∀g,v'.ownBlock=some g→v.ownBlock=some g∨w.heap.size≤g)→wpList P ops Q rest (a.put o.dst v') w'):wpList P ops Q (o::rest) a w:=
 wpList_plain hgd fun _ hK=>by
  obtain ⟨v',w',hr,h2,h3,h4⟩:=zt8 (P:=P) w base t o.type e i z size bytes ht hi hz hsize hby hzs hsz v n xs hown ad m c news hl hnews h1 h63 hbytes hbase;unfold Oper.wp execOp;simp only [ho,resolve,invoke,builtin,Sem.run_bind,Sem.run_pure,Result.andThen_ok,List.map_toArray,List.map_cons,List.map_nil,hs,hx,hr];exact hK _ _ (h v' w' h2 h3 h4)
end Mem
end
end Go.Proofs.YtggadpalljhiaaaGreatDoor
