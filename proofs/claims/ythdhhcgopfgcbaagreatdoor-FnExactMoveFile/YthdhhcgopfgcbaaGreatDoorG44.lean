/- Several texts of one claim in one file: MapLookIn, WPathsW, WOpenWay, WNestF, WFirst, WNestL, WRiseU, WWhole, WAsLeaf, WNestD, WItemX, WTakeX, WTakeY, WErrs4, WNestX, WRiseT, WViewI. -/
import Derived.Maps.OwnIn
import Derived.Test.YthdhhcgopfgcbaaGreatDoorG09
import Derived.Test.YthdhhcgopfgcbaaGreatDoorG11
import Derived.Test.YthdhhcgopfgcbaaGreatDoorPlainWay
import Derived.Test.YthdhhcgopfgcbaaGreatDoorG19
import Derived.Test.YthdhhcgopfgcbaaGreatDoorG10
import Derived.Test.YthdhhcgopfgcbaaGreatDoorG17
namespace Go.Proofs.YthdhhcgopfgcbaaGreatDoor
section
open Go.RowKit Go.Maps
namespace MapN
section
variable {F:Fence} {nF:Nat} {P:Program} (w:World) {ops:Array Oper} {rest:List Oper} {o:Oper} {a:Act} {Q:Exit→Act→World→Prop}
theorem yh5 (hg:o.guard=none) (m x:Operand) (t:TypeId) (hop:o.op=Op.lookup t m x true)
  (k e:TypeId) (K:Keyed P k) (ht:P.underlying t=some (.map k e)) (hz:(zeroValue e).run P w= .ok (Pl.Nd.val ⟨⟨#[]⟩,0,⟨#[]⟩,0,0⟩) w) (b n:Nat) (D:DataW Unit)
  (hm:a.eval m= .map (some b)) (hown:w.ownsMap P k elem b n D) (kv:Value) (kl:Lit) (hx:a.eval x=kv) (hkey:keyOf P k kv=some kl) (nd:Pl.Nd) (hat:D.atKey kl (dat ⟨⟨#[]⟩,0,⟨#[]⟩,0,0⟩)=dat nd) (r:Bool) (hr:Maps.has D kl=r)
  (hK:wpListIn F nF P ops Q rest (a.put o.dst (.tuple #[.agg #[.string nd.path, .int .i64 nd.kind, .string nd.data, .int .i64 nd.time, .int .i64 nd.mark], .bool r])) w):
  wpListIn F nF P ops Q (o::rest) a w:=
 wpListIn_lookup_own_ok w hg m x t hop k e K ht elem hz _ [] (zk3 _) b n D hm hown kv kl hx hkey (fun v ps hv=>by
  obtain ⟨n1,rfl,hd⟩:=zt8 hv;obtain rfl:=zs5 (hat.symm.trans hd);rw [hr]
  exact hK)
theorem lookIn_no (hg:o.guard=none) (m x:Operand) (t:TypeId) (hop:o.op=Op.lookup t m x false)
  (k e:TypeId) (K:Keyed P k) (ht:P.underlying t=some (.map k e)) (hz:(zeroValue e).run P w= .ok (Pl.Nd.val ⟨⟨#[]⟩,0,⟨#[]⟩,0,0⟩) w) (b n:Nat) (D:DataW Unit)
  (hm:a.eval m= .map (some b)) (hown:w.ownsMap P k elem b n D) (kv:Value) (kl:Lit) (hx:a.eval x=kv) (hkey:keyOf P k kv=some kl) (nd:Pl.Nd) (hat:D.atKey kl (dat ⟨⟨#[]⟩,0,⟨#[]⟩,0,0⟩)=dat nd)
  (hK:wpListIn F nF P ops Q rest (a.put o.dst (.agg #[.string nd.path, .int .i64 nd.kind, .string nd.data, .int .i64 nd.time, .int .i64 nd.mark])) w):
  wpListIn F nF P ops Q (o::rest) a w:=by
 refine wpListIn_plain hg fun K' hK'=>?_;obtain ⟨v,ps,hrun,hv⟩:=hown.lookup K ht hz (zk3 _) hkey;obtain ⟨n1,rfl,hd⟩:=zt8 hv;obtain rfl:=zs5 (hat.symm.trans hd);unfold Oper.wpIn;refine ⟨by simp [Oper.about,hop],?_⟩;rw [Oper.semAt_plain F _ _ (by rw [hop];intro c hc';cases hc')];simp [execOp,hop,hm,hx,hrun,Result.andThen]
 exact hK' _ _ hK
end
end MapN
end
section
open Go.RowKit Go.Shelf
attribute [local go_sem] Oper.semAt_some
namespace zk2
abbrev Way (L:List ByteArray):={ x:ByteArray // x∈Pl.ways L L.length }
theorem way_mem {L:List ByteArray} {k:Nat} (h:k<L.length):Pl.glue (L.take (k+1))∈Pl.ways L L.length:=List.mem_map.2 ⟨k,List.mem_range.2 h,rfl⟩
set_option linter.unusedSimpArgs false in
set_option maxRecDepth 100000 in
set_option maxHeartbeats 2000000 in
theorem iter_ways (L:List ByteArray) (n:Nat) (X:Nat) (q:Addr) (p:ByteArray) (w:World) (hX:X<w.heap.size) (hq:w.cell? q=some (.string p)) (hql:q.block<w.heap.size) (hp:p.size≤1048576) (hLp:Pl.zb p=L):
  SeqStopsK Fence.wide n Tryz.prog 135 #[.pointer (some q)] (fun x:Way (L)=>#[Value.string x.1]) (KC X) (fun xs=>xs.map Subtype.val=Pl.ways (L) (L).length) (fun _=>True) (L).length w:=fun l J Jx W hW hJ _ hY h0=>by
 have hq1:W.cell? q=some (.string p):=(hW.cell hql).trans hq;have hXW:X<W.heap.size:=Nat.lt_of_lt_of_le hX hW.size;have HN:=hide (yb8.any p W hp);generalize Pl.za1 p=rr at HN;have hl6:L.length≤6:=by rw [←hLp];exact (Pl.zg0 p).2
 have HGL:Hid (∀k,(Pl.glue ((L).take k)).size≤1000000):=fun k=>Pl.zz5 (fun t ht=>(Pl.zg0 p).1 t (by rw [hLp];exact List.mem_of_mem_take ht)) (by have :=(Pl.zg0 p).2;rw [hLp] at this;simp;omega);rw [hLp] at HN;refine callsIn_of_wp Tryz.func135 rfl trivial ?_ rfl;simp only [Tryz.ntmps135,List.size_toArray,List.length_cons,List.length_nil,Nat.reduceAdd,Nat.reduceSub,Array.replicate_succ,Array.replicate_zero,List.push_toArray,List.append_toArray,List.nil_append,List.cons_append]
 gi_wp2_with fail
 refine ⟨trivial,fun h=>(by cases h),?_⟩;refine (callsIn_wide.2 (za HN)).mono ?_;rintro e w1 ⟨v,rfl,own,b1⟩;obtain ⟨a,cap,rfl⟩:=Mem.za4 own;have hJ1:Hid (∃pre:List (Way L),pre.map Subtype.val=Pl.ways L 0∧J pre w1):=⟨[],rfl,hJ [] W w1 none h0 (Mem.zc7 b1 none) (fun r e=>by cases e)⟩;have OW:=hide own;have HY:=hide hY;clear HN own b1 h0 hY
 gi_wp2_with fail
 gi_loopw [13] (fun i wr=>∃k:Nat,k≤L.length∧i= .int .i64 k∧Hid (∃pre:List (Way L),pre.map Subtype.val=Pl.ways L k∧J pre wr)∧Hid (wr.ownsRow W.heap.size 9 1 (.slice a L.length cap) L.length (L.map Value.string)))
  (fun i _=>L.length - (intOf i).toNat)
 case atStart=>exact ⟨0,Nat.zero_le _,rfl,hJ1,OW⟩
 case round=>
  obtain ⟨k,hk,rfl,HJ,HO⟩:=hrel;clear hJ1 OW;by_cases hlt:k<L.length
  ·have y1:(k:Int)<(L.length:Int):=by omega
   have hT:=Mem.yo1 (Mem.zo1 (za HO)) (k+1) (by omega) (by omega);have HP:=hide (ya2.any (.slice a (k+1) cap) (L.take (k+1)) wr (by simp;omega) (za HGL (k+1)) hT);have hcap:=Mem.own_cap (za HO);have hw1:IntKind.i64.wrap ((k:Int)+1)=(k:Int)+1:=by simp only [IntKind.wrap_i64];omega
   clear hT
   gi_wp2_with fail
   refine ⟨trivial,fun h=>(by cases h),?_⟩;refine (callsIn_wide.2 (za HP)).mono ?_;rintro e w2 ⟨rfl,b2⟩;obtain ⟨pre,hpre,hJp⟩:=za HJ;have HJ2:J pre w2:=hJ _ wr w2 none hJp (Mem.zc7 b2 none) (fun r e=>by cases e);have HO2:=hide (Mem.zj2 (za HO) b2);obtain ⟨fn,tmps,assign,body,hy,hR⟩:=za HY pre ⟨Pl.glue (L.take (k+1)),way_mem hlt⟩ w2 HJ2 (by have :=congrArg List.length hpre;rw [Pl.yg1,List.length_map] at this;omega);have HWS:Hid ((pre++[(⟨Pl.glue (L.take (k+1)),way_mem hlt⟩:Way L)]).map Subtype.val=Pl.ways L (k+1)):=by rw [List.map_append,hpre,Pl.yd2];exact rfl
   dsimp only at hy
   clear HP HJ HO HJ2 b2 hpre hJp
   gi_wp2
   refine ⟨fun h=>(by cases h),?_⟩;refine hR.mono ?_;rintro e W3 (⟨rfl,hJ3,hk3⟩|⟨rfl,hJx3⟩)
   ·have HJ3:Hid (∃pre:List (Way L),pre.map Subtype.val=Pl.ways L (k+1)∧J pre W3):=⟨_,za HWS,hJ3⟩;have HO3:=hide (row_kept (za HO2) hk3 hXW);clear hJ3 hk3 HO2 hR hy HWS
    gi_wp2
    go_roundw
    case rel=>exact ⟨k+1,by omega,by go_num,HJ3,HO3⟩
    case measure=>simp [intOf];omega
   ·gi_wp2
    refine bodyPost_ret (results_none rfl _ _ _) rfl ?_;exact ⟨⟨_,rfl⟩, .inr ⟨_,trivial,hJx3⟩⟩
  ·obtain rfl:k=L.length:=by omega
   have y1:¬ ((L.length:Int)<(L.length:Int)):=by omega
   gi_wp2
   go_end0
   exact ⟨⟨_,rfl⟩, .inl (za HJ)⟩
end zk2
end
section
open Go.RowKit Go.Shelf
attribute [local go_sem] Oper.semAt_some
namespace WOpen
structure Ow (w:World) (qf qs:Nat) (lev:Int) (L S:List Pl.Nd) (ps:List ByteArray) (W:World):Prop where
 grown:w.grownBy W (some qf)
 box:Mem.Blk W w.heap.size #[.map (some qf), .map (some qs), .int .i64 lev] 135
 leaf:W.ownsMap Tryz.prog 9 MapN.elem qf (40+ps.length) (MapN.mapOf (Pl.zg3 S L ps))
 seen:Mem.ownM W qs S
theorem own_grown {W W':World} {q N:Nat} {D:DataW Unit} {r:Option Nat} (h:W.ownsMap Tryz.prog 9 MapN.elem q N D) (g:W.grownBy W' r) (hr:some q≠r):W'.ownsMap Tryz.prog 9 MapN.elem q N D:=by
 have hlt:=World.ownsMap.lt h;obtain ⟨es,clock,hb,F,hs,hD⟩:=h;exact ⟨es,clock,(g.block q hlt hr).trans hb,F,hs,hD⟩
theorem ya1 {w W W':World} {q:Nat} {r:Option Nat} (h:w.grownBy W (some q)) (g:W.grownBy W' r) (hr:∀k,r=some k→w.heap.size≤k∨k=q):w.grownBy W' (some q):=
 ⟨g.os.trans h.os,g.tape.trans h.tape,g.output.trans h.output,Nat.le_trans h.size g.size,fun k hk hne=>(g.block k (Nat.lt_of_lt_of_le hk h.size) (fun e=>by
  rcases hr k e.symm with h1|h1
  ·omega
  ·exact hne (by rw [h1]))).trans (h.block k hk hne)⟩
theorem Ow.step {w W W':World} {qf qs:Nat} {lev:Int} {L S:List Pl.Nd} {ps:List ByteArray} {r:Option Nat} (h:Ow w qf qs lev L S ps W) (g:W.grownBy W' r) (hr:∀k,r=some k→w.heap.size<k) (hf:qf<w.heap.size) (hs:qs<w.heap.size):Ow w qf qs lev L S ps W':=
 ⟨ya1 h.grown g (fun k e=> .inl (Nat.le_of_lt (hr k e))),h.box.grown g (fun e=>by have :=hr _ e.symm;omega),own_grown h.leaf g (fun e=>by have :=hr _ e.symm;omega),h.seen.grown g (fun e=>by have :=hr _ e.symm;omega)⟩
set_option linter.unusedSimpArgs false in
set_option maxRecDepth 100000 in
set_option maxHeartbeats 4000000 in
theorem open_any (qf qs:Nat) (lev:Int) (L S:List Pl.Nd) (p:ByteArray) (w:World) (hp:p.size≤8000) (hf:Mem.ownM w qf L) (hs:Mem.ownM w qs S) (hne:qf≠qs) (hL:Pl.zc9 L) (hS:Pl.zc9 S) (hll:L.length≤40)
  (hW:∀q∈Pl.ways (Pl.zb (Pl.zb4 p)) (Pl.zb (Pl.zb4 p)).length,∃d,Pl.lk S q=some d):
  Calls Tryz.prog 91 #[.agg #[.map (some qf), .map (some qs), .int .i64 lev], .string p] w fun e w'=>e= .returned (.tuple #[])∧w.grownBy w' (some qf)∧w'.ownsMap Tryz.prog 9 MapN.elem qf 46 (MapN.mapOf (Pl.zg3 S L (Pl.ways (Pl.zb (Pl.zb4 p)) (Pl.zb (Pl.zb4 p)).length))):=by
 have b0:Below w.heap.size w (w.alloc (.cells #[.map (some qf), .map (some qs), .int .i64 lev] 135)):=(Below.refl _ _).alloc (Nat.le_refl _) _;have hfl:=hf.lt;have hsl:=hs.lt;have O0:Ow w qf qs lev L S [] (w.alloc (.cells #[.map (some qf), .map (some qs), .int .i64 lev] 135)):=⟨Mem.zc7 b0 _,Mem.Blk.new _ _ _,hf.call b0,hs.call b0⟩;have hq8:(Pl.zb4 p).size≤1000000:=Pl.zz5 (fun t ht=>(Pl.zg0 p).1 t ((List.dropLast_sublist _).subset ht)) (by have :=(Pl.zg0 p).2;simp;omega);have hwl:(Pl.zb (Pl.zb4 p)).length≤6:=(Pl.zg0 _).2;have HPA:=hide (fun W=>zq3.zs3 p W (by omega));have EP:Pl.glue (Pl.zb p).dropLast=Pl.zb4 p:=rfl;rw [EP] at HPA;clear EP hf hs;generalize Pl.zb4 p=pp at HPA hW hq8 hwl ⊢;have HW:=hide hW;have HL:=hide hL;have HS:=hide hS;clear hW hL hS;refine (callsIn_wide (n:=3)).1 ?_;refine callsIn_of_wp_marks Tryz.func91 rfl trivial ?_ rfl
 simp only [Tryz.ntmps91,List.size_toArray,List.length_cons,List.length_nil,Nat.reduceAdd,Nat.reduceSub,Array.replicate_succ,Array.replicate_zero,List.push_toArray,List.append_toArray,List.nil_append,List.cons_append]
 gi_wp2_with fail
 refine ⟨trivial,?_⟩;generalize w.alloc (.cells #[.map (some qf), .map (some qs), .int .i64 lev] 135)=w1 at b0 O0 ⊢;refine (callsIn_wide.2 (za HPA w1)).mono ?_;rintro e w2 ⟨rfl,b2⟩;have O2:=O0.step (Mem.zc7 b2 none) (fun k e=>by cases e) hfl hsl;clear HPA O0
 gi_wp2_with fail
 refine ⟨trivial,?_⟩;refine (callsIn_wide.2 (zk2.paths_any pp w2)).mono ?_;rintro e w3 ⟨rfl,hw3⟩;have O3:Ow w qf qs lev L S [] w3:=by rw [hw3];exact O2.step (World.grownBy_alloc _ _ none) (fun k e=>by cases e) hfl hsl
 have z3:w3.heap.size=w2.heap.size+1:=by rw [hw3];simp
 have q3:w3.cell? ⟨w2.heap.size,0,none⟩=some (.string pp):=by
  have :=(Mem.Blk.new w2 #[.string pp] 9).cell 0;rw [hw3];exact this
 have hz2:w.heap.size<w2.heap.size:=O2.box.lt;have H3:=hide O3;have Z3:=hide z3;clear O2 hw3 O3 b2 b0 z3
 gi_wp2_with fail
 refine wpIn_rangeFunc_ownG rfl (by omega) (gf:=135) (lb:=#[.pointer (some ⟨w2.heap.size,0,none⟩)]) rfl trivial (enters_of Tryz.func135 (by kernel_rfl) rfl)
  (zk2.iter_ways (Pl.zb pp) 2 w.heap.size ⟨w2.heap.size,0,none⟩ pp w3 (by rw [za Z3];omega) q3 (by show w2.heap.size<_;rw [za Z3];omega) (by omega) rfl) zk2.KC.trans (fun W l o o' _ hl ho _=>zk2.KC.put W o o' hl ho) (Below.refl _ _) (fun _=>rfl)
  (fun (pre:List (zk2.Way (Pl.zb pp))) W=>Ow w qf qs lev L S (pre.map Subtype.val) W)
  (fun _ _ _=>False)
  (fun s A A' row hs hg hr=>hs.step hg (fun k e=>by have :=(hr k e).1;rw [za Z3] at this;omega) hfl hsl)
  (fun _ _ _ _ _ hs _ _=>hs)
  (za H3)
  (fun x=>{ tmps:=#[.agg #[.map (some qf), .map (some qs), .int .i64 lev], .string p, .pointer (some ⟨w.heap.size,0,none⟩),undef, .string x.1,undef,undef,undef, .string p, .string pp, .func (.func 135) #[] #[.pointer (some ⟨w2.heap.size,0,none⟩)], .string x.1,undef,undef,undef,undef,undef,undef,undef,undef,undef,undef,undef,undef,undef,undef,undef,undef,undef,undef,undef,undef,undef,undef,undef,undef],defers:=[] }) ?assign ?body ?done ?stop
 case assign=>
  intro l x W K hK
  gi_wp2
  exact hK
 case body=>
  rintro l pre ⟨x,hx⟩ W hI hlen;obtain ⟨d,hd⟩:=za HW x hx;have hpre:(pre.map Subtype.val).length≤6:=by rw [List.length_map];omega
  have hall:∀q∈pre.map Subtype.val,∃d,Pl.lk S q=some d:=fun q hq=>by
   obtain ⟨y, -,rfl⟩:=List.mem_map.1 hq;exact za HW y.1 y.2
  have HM:Hid ((pre++[(⟨x,hx⟩:zk2.Way (Pl.zb pp))]).map Subtype.val=pre.map Subtype.val++[x]):=by rw [List.map_append];exact rfl
  generalize pre.map Subtype.val=ps at hI hpre hall HM;obtain ⟨hr1,hr2⟩:=Pl.zv4 (za HS) ps L (za HL) hall;have HSN:=hide (Pl.open_snoc S L ps x);obtain ⟨hd1,hd2⟩:=Pl.ye1 hd;obtain ⟨dp,dk,dd,dt,dm⟩:=d;have hd3:x=dp:=hd2.symm;subst hd3;have hxr:Pl.za1 x=true:=((za HS).path _ hd1).1;have hxs:x.size≤8000:=by have :=Pl.zd1 hxr;omega
  have hdz:=((za HS).path _ hd1).2;have hkey:=MapN.zj3 (p:=x) (by unfold maxLen;omega);have hSL:=MapN.zp0 (za HS).apart hd1;simp only at hSL hdz;clear hd2;have c0:=hI.box.cell 0;have c1:=hI.box.cell 1;simp only [kGs] at c0 c1;have hBx:=hI.box.lt;have HI:=hide hI;have HLF:=hide hI.leaf;clear hI;cases hlk:Pl.lk (Pl.zg3 S L ps) x with
  |none=>
   have hmiss:∀n∈Pl.zg3 S L ps,n.path≠x:=fun n hn=>by simpa using List.find?_eq_none.1 hlk n hn
   have HA1:=hide (Maps.atKey_of_not_has (MapN.zr9 hmiss) (MapN.dat ⟨⟨#[]⟩,0,⟨#[]⟩,0,0⟩));have HA2:=hide (MapN.zr9 hmiss);have z1:(W.alloc (.cells #[.string ⟨#[]⟩, .int .i64 0, .string ⟨#[]⟩, .int .i64 0, .int .i64 0] 47)).heap.size=W.heap.size+1:=by simp
   have i1:=(za HI).step (World.grownBy_alloc W (.cells #[.string ⟨#[]⟩, .int .i64 0, .string ⟨#[]⟩, .int .i64 0, .int .i64 0] 47) none) (fun k e=>by cases e) hfl hsl;have A1:=Mem.Blk.new W #[.string ⟨#[]⟩, .int .i64 0, .string ⟨#[]⟩, .int .i64 0, .int .i64 0] 47;have i3:=i1.step (World.grownBy_alloc (W.alloc (.cells #[.string ⟨#[]⟩, .int .i64 0, .string ⟨#[]⟩, .int .i64 0, .int .i64 0] 47)) (.cells #[.string x, .int .i64 dk, .string dd, .int .i64 dt, .int .i64 0] 47) none) (fun k e=>by cases e) hfl hsl;have A2:=A1.alloc (.cells #[.string x, .int .i64 dk, .string dd, .int .i64 dt, .int .i64 dm] 47);have B2:=Mem.Blk.new (W.alloc (.cells #[.string ⟨#[]⟩, .int .i64 0, .string ⟨#[]⟩, .int .i64 0, .int .i64 0] 47)) #[.string x, .int .i64 dk, .string dd, .int .i64 dt, .int .i64 dm] 47
   have B3:=Mem.Blk.new (W.alloc (.cells #[.string ⟨#[]⟩, .int .i64 0, .string ⟨#[]⟩, .int .i64 0, .int .i64 0] 47)) #[.string x, .int .i64 dk, .string dd, .int .i64 dt, .int .i64 0] 47;rw [z1] at B2 B3;have a0:=i1.box.cell 0;have a1:=i1.box.cell 1;have a3:=i3.box.cell 0;have d1:=A1.cell 1;have d4:=A2.cell 4;have g4:=B2.cell 4;have gf:=B2.fr 4;have h0:=B3.cell 0;have h1:=B3.cell 1;have h2:=B3.cell 2;have h3:=B3.cell 3;have h4:=B3.cell 4;simp only [kGs] at a0 a1 a3 d1 d4 g4 h0 h1 h2 h3 h4;have HSE:=hide i1.seen;have HL3:=hide i3.leaf;have HG3:=hide (⟨i3.grown,i3.box,i3.seen⟩:_∧_∧_)
   have hop:Pl.zq0 S (Pl.zg3 S L ps) x=Pl.putL (Pl.zg3 S L ps) ⟨x,dk,dd,dt,0⟩:=by
    rw [Pl.zq0,hlk,hd];rfl
   have KEEP:Hid (∀W5,(((W.alloc (.cells #[.string ⟨#[]⟩, .int .i64 0, .string ⟨#[]⟩, .int .i64 0, .int .i64 0] 47)).alloc (.cells #[.string x, .int .i64 dk, .string dd, .int .i64 dt, .int .i64 0] 47)).grownBy W5 (some qf))→W5.ownsMap Tryz.prog 9 MapN.elem qf (40+ps.length+1) ((MapN.mapOf (Pl.zg3 S L ps)).put (MapN.key x) (MapN.dat ⟨x,dk,dd,dt,0⟩))→Ow w qf qs lev L S (ps++[x]) W5∧zk2.KC w.heap.size W W5∧KeepsFrom w3.heap.size W W5):=fun W5 g5 m5=>by
    have hgw:W.grownBy ((W.alloc (.cells #[.string ⟨#[]⟩, .int .i64 0, .string ⟨#[]⟩, .int .i64 0, .int .i64 0] 47)).alloc (.cells #[.string x, .int .i64 dk, .string dd, .int .i64 dt, .int .i64 0] 47)) none:=by
     have b5:=((Below.refl W.heap.size W).alloc (Nat.le_refl _) (.cells #[.string ⟨#[]⟩, .int .i64 0, .string ⟨#[]⟩, .int .i64 0, .int .i64 0] 47)).alloc (by simp) (.cells #[.string x, .int .i64 dk, .string dd, .int .i64 dt, .int .i64 0] 47);exact Mem.zc7 b5 none
    have hqW:qf<W.heap.size:=World.ownsMap.lt (za HLF)
    have same:∀j,j<W.heap.size→j≠qf→W5.heap[j]? =W.heap[j]?:=fun j hj hn=>by
     rw [g5.block j (Nat.lt_of_lt_of_le hj hgw.size) (fun e=>hn (Option.some.inj e)),hgw.block j hj (by simp)]
    obtain ⟨es,clock,hmap, -⟩:=za HLF;refine ⟨⟨ya1 (za HG3).1 g5 (fun k e=>by cases e;exact .inr rfl),(za HG3).2.1.grown g5 (fun e=>by have :=Option.some.inj e;omega),?_,(za HG3).2.2.grown g5 (fun e=>hne (Option.some.inj e).symm)⟩,⟨Nat.le_trans hgw.size g5.size,fun j o hj ho hc=>?_⟩,⟨Nat.le_trans hgw.size g5.size,fun j o hB ho hc=>?_⟩⟩
    ·rw [List.length_append,za HSN,hop];refine MapN.yc9 hr1 (n:=⟨x,dk,dd,dt,0⟩) hxr hdz ?_;exact m5
    ·have hlt:=(Array.getElem?_eq_some_iff.1 ho).1;rw [same j hlt (fun e=>by rw [e,hmap] at ho;cases ho;cases hc)];exact ho
    ·have hlt:=(Array.getElem?_eq_some_iff.1 ho).1;rw [same j hlt (fun e=>by rw [za Z3] at hB;omega)];exact ho
   clear i1 i3 A1 A2 B2 B3 z1
   gi_wp2_with (first |(gi_at_lookup;refine MapN.yh5 _ rfl _ _ 78 rfl 9 47 MapN.law Tryz.underlying78 (MapN.za6 _) qf (40+ps.length) (MapN.mapOf (Pl.zg3 S L ps)) rfl (za HLF) _ _ rfl hkey ⟨⟨#[]⟩,0,⟨#[]⟩,0,0⟩ (za HA1) false (za HA2) ?_)|(gi_at_lookup;refine MapN.lookIn_no _ rfl _ _ 78 rfl 9 47 MapN.law Tryz.underlying78 (MapN.za6 _) qs 40 (MapN.mapOf S) rfl (za HSE) _ _ rfl hkey ⟨x,dk,dd,dt,dm⟩ (hSL.2 _) ?_)|(gi_at_mapUpdate;refine wpListIn_mapUpdate_own _ rfl _ _ _ 78 rfl 9 47 MapN.law Tryz.underlying78 _ qf (40+ps.length) _ rfl (za HL3) (by unfold maxLen;omega) _ _ _ rfl rfl hkey _ [] (MapN.zk3 ⟨x,dk,dd,dt,0⟩) ?_;intro W5 own5 g5))
   have KP:=hide (za KEEP W5 g5 own5);clear own5 g5 KEEP HL3 HG3
   gi_wp2
   exact ⟨(za KP).2.2,(za KP).2.1,by show Ow w qf qs lev L S ((pre++[(⟨x,hx⟩:zk2.Way (Pl.zb pp))]).map Subtype.val) _;rw [za HM];exact (za KP).1⟩
  |some nn=>
   obtain ⟨hn1,hn2⟩:=Pl.ye1 hlk;have hat:=MapN.zp0 hr1.apart hn1;rw [hn2] at hat;have HA1:=hide (hat.2 (MapN.dat ⟨⟨#[]⟩,0,⟨#[]⟩,0,0⟩));have HA2:=hide hat.1;clear hat;obtain ⟨np,nk,nd,nt,nm⟩:=nn;simp only at hn2 HA1;clear hn1 hn2;by_cases hk0:nk=0
   ·subst hk0;have z1:(W.alloc (.cells #[.string np, .int .i64 0, .string nd, .int .i64 nt, .int .i64 nm] 47)).heap.size=W.heap.size+1:=by simp
    have i1:=(za HI).step (World.grownBy_alloc W (.cells #[.string np, .int .i64 0, .string nd, .int .i64 nt, .int .i64 nm] 47) none) (fun k e=>by cases e) hfl hsl;have A1:=Mem.Blk.new W #[.string np, .int .i64 0, .string nd, .int .i64 nt, .int .i64 nm] 47;have i3:=i1.step (World.grownBy_alloc (W.alloc (.cells #[.string np, .int .i64 0, .string nd, .int .i64 nt, .int .i64 nm] 47)) (.cells #[.string x, .int .i64 dk, .string dd, .int .i64 dt, .int .i64 nm] 47) none) (fun k e=>by cases e) hfl hsl;have A2:=A1.alloc (.cells #[.string x, .int .i64 dk, .string dd, .int .i64 dt, .int .i64 dm] 47);have B2:=Mem.Blk.new (W.alloc (.cells #[.string np, .int .i64 0, .string nd, .int .i64 nt, .int .i64 nm] 47)) #[.string x, .int .i64 dk, .string dd, .int .i64 dt, .int .i64 dm] 47
    have B3:=Mem.Blk.new (W.alloc (.cells #[.string np, .int .i64 0, .string nd, .int .i64 nt, .int .i64 nm] 47)) #[.string x, .int .i64 dk, .string dd, .int .i64 dt, .int .i64 nm] 47;rw [z1] at B2 B3;have a0:=i1.box.cell 0;have a1:=i1.box.cell 1;have a3:=i3.box.cell 0;have d1:=A1.cell 1;have d4:=A2.cell 4;have g4:=B2.cell 4;have gf:=B2.fr 4;have h0:=B3.cell 0;have h1:=B3.cell 1;have h2:=B3.cell 2;have h3:=B3.cell 3;have h4:=B3.cell 4;simp only [kGs] at a0 a1 a3 d1 d4 g4 h0 h1 h2 h3 h4;have HSE:=hide i1.seen;have HL3:=hide i3.leaf;have HG3:=hide (⟨i3.grown,i3.box,i3.seen⟩:_∧_∧_)
    have hop:Pl.zq0 S (Pl.zg3 S L ps) x=Pl.putL (Pl.zg3 S L ps) ⟨x,dk,dd,dt,nm⟩:=by
     rw [Pl.zq0,hlk,hd];rfl
    have KEEP:Hid (∀W5,(((W.alloc (.cells #[.string np, .int .i64 0, .string nd, .int .i64 nt, .int .i64 nm] 47)).alloc (.cells #[.string x, .int .i64 dk, .string dd, .int .i64 dt, .int .i64 nm] 47)).grownBy W5 (some qf))→W5.ownsMap Tryz.prog 9 MapN.elem qf (40+ps.length+1) ((MapN.mapOf (Pl.zg3 S L ps)).put (MapN.key x) (MapN.dat ⟨x,dk,dd,dt,nm⟩))→Ow w qf qs lev L S (ps++[x]) W5∧zk2.KC w.heap.size W W5∧KeepsFrom w3.heap.size W W5):=fun W5 g5 m5=>by
     have hgw:W.grownBy ((W.alloc (.cells #[.string np, .int .i64 0, .string nd, .int .i64 nt, .int .i64 nm] 47)).alloc (.cells #[.string x, .int .i64 dk, .string dd, .int .i64 dt, .int .i64 nm] 47)) none:=by
      have b5:=((Below.refl W.heap.size W).alloc (Nat.le_refl _) (.cells #[.string np, .int .i64 0, .string nd, .int .i64 nt, .int .i64 nm] 47)).alloc (by simp) (.cells #[.string x, .int .i64 dk, .string dd, .int .i64 dt, .int .i64 nm] 47);exact Mem.zc7 b5 none
     have hqW:qf<W.heap.size:=World.ownsMap.lt (za HLF)
     have same:∀j,j<W.heap.size→j≠qf→W5.heap[j]? =W.heap[j]?:=fun j hj hn=>by
      rw [g5.block j (Nat.lt_of_lt_of_le hj hgw.size) (fun e=>hn (Option.some.inj e)),hgw.block j hj (by simp)]
     obtain ⟨es,clock,hmap, -⟩:=za HLF;refine ⟨⟨ya1 (za HG3).1 g5 (fun k e=>by cases e;exact .inr rfl),(za HG3).2.1.grown g5 (fun e=>by have :=Option.some.inj e;omega),?_,(za HG3).2.2.grown g5 (fun e=>hne (Option.some.inj e).symm)⟩,⟨Nat.le_trans hgw.size g5.size,fun j o hj ho hc=>?_⟩,⟨Nat.le_trans hgw.size g5.size,fun j o hB ho hc=>?_⟩⟩
     ·rw [List.length_append,za HSN,hop];refine MapN.yc9 hr1 (n:=⟨x,dk,dd,dt,nm⟩) hxr hdz ?_;exact m5
     ·have hlt:=(Array.getElem?_eq_some_iff.1 ho).1;rw [same j hlt (fun e=>by rw [e,hmap] at ho;cases ho;cases hc)];exact ho
     ·have hlt:=(Array.getElem?_eq_some_iff.1 ho).1;rw [same j hlt (fun e=>by rw [za Z3] at hB;omega)];exact ho
    clear i1 i3 A1 A2 B2 B3 z1
    gi_wp2_with (first |(gi_at_lookup;refine MapN.yh5 _ rfl _ _ 78 rfl 9 47 MapN.law Tryz.underlying78 (MapN.za6 _) qf (40+ps.length) (MapN.mapOf (Pl.zg3 S L ps)) rfl (za HLF) _ _ rfl hkey ⟨np,0,nd,nt,nm⟩ (za HA1) true (za HA2) ?_)|(gi_at_lookup;refine MapN.lookIn_no _ rfl _ _ 78 rfl 9 47 MapN.law Tryz.underlying78 (MapN.za6 _) qs 40 (MapN.mapOf S) rfl (za HSE) _ _ rfl hkey ⟨x,dk,dd,dt,dm⟩ (hSL.2 _) ?_)|(gi_at_mapUpdate;refine wpListIn_mapUpdate_own _ rfl _ _ _ 78 rfl 9 47 MapN.law Tryz.underlying78 _ qf (40+ps.length) _ rfl (za HL3) (by unfold maxLen;omega) _ _ _ rfl rfl hkey _ [] (MapN.zk3 ⟨x,dk,dd,dt,nm⟩) ?_;intro W5 own5 g5))
    have KP:=hide (za KEEP W5 g5 own5);clear own5 g5 KEEP HL3 HG3
    gi_wp2
    exact ⟨(za KP).2.2,(za KP).2.1,by show Ow w qf qs lev L S ((pre++[(⟨x,hx⟩:zk2.Way (Pl.zb pp))]).map Subtype.val) _;rw [za HM];exact (za KP).1⟩
   ·have t1:(nk==0)=false:=by simpa using hk0
    have t2:(nk !=0)=true:=by simpa using hk0
    have i1:=(za HI).step (World.grownBy_alloc W (.cells #[.string np, .int .i64 nk, .string nd, .int .i64 nt, .int .i64 nm] 47) none) (fun k e=>by cases e) hfl hsl;have A1:=Mem.Blk.new W #[.string np, .int .i64 nk, .string nd, .int .i64 nt, .int .i64 nm] 47;have d1:=A1.cell 1;simp only [kGs] at d1
    have hop:Pl.zq0 S (Pl.zg3 S L ps) x=Pl.zg3 S L ps:=by
     rw [Pl.zq0,hlk];exact if_neg hk0
    have KP:Hid (Ow w qf qs lev L S (ps++[x]) (W.alloc (.cells #[.string np, .int .i64 nk, .string nd, .int .i64 nt, .int .i64 nm] 47))):=⟨i1.grown,i1.box,by
     rw [za HSN,hop,List.length_append];obtain ⟨es,clock,hb,F,hs,hD⟩:=i1.leaf
     exact ⟨es,clock,hb,F,Nat.le_trans hs (by omega),hD⟩,i1.seen⟩
    clear i1 A1
    gi_wp2_with (gi_at_lookup;refine MapN.yh5 _ rfl _ _ 78 rfl 9 47 MapN.law Tryz.underlying78 (MapN.za6 _) qf (40+ps.length) (MapN.mapOf (Pl.zg3 S L ps)) rfl (za HLF) _ _ rfl hkey ⟨np,nk,nd,nt,nm⟩ (za HA1) true (za HA2) ?_)
    exact ⟨(KeepsOthers.alloc _ _).from _,⟨by simp,fun j o _ ho _=>(Below.heap_alloc _ _ _ (Array.getElem?_eq_some_iff.1 ho).1).trans ho⟩,by show Ow w qf qs lev L S ((pre++[(⟨x,hx⟩:zk2.Way (Pl.zb pp))]).map Subtype.val) _;rw [za HM];exact za KP⟩
 case done=>
  rintro D xs W hD hS hI hK;have HI:=hide hI;clear hI
  gi_wp2
  refine ⟨by simp, .inl ⟨_,_,rfl,run_takeDeferred hK,?_⟩⟩;have hD2:w.heap.size<D:=by rw [za Z3] at hD;omega
  have O4:=(za HI).step (grownBy_putObj' W D (.deferred none)) (fun k e=>by cases e;exact hD2) hfl hsl;refine ⟨_,results_none rfl _ _ _,rfl,O4.grown,?_⟩;have hm:=O4.leaf;rw [hS] at hm;have hri:=Pl.zv4 (za HS) _ L (za HL) (za HW);refine Mem.tight hm ?_;rw [MapN.zv8 hri.1.apart];have :=Pl.yg1 (Pl.zb pp) (Pl.zb pp).length;omega
 case stop=>
  rintro D c xs W _ _ h _;exact h.elim
end WOpen
end
section
open Go.RowKit
namespace zl4
set_option maxRecDepth 100000 in
theorem zx0 (k:Pl.Fo) (q:Option Nat) (m:Int) (a:Option Addr) (cap:Nat) (w:World):
  Calls Tryz.prog 118 #[.agg #[.map q, .int .i64 m, .slice a k.len cap]] w fun e w'=>e= .returned (.bool (decide (k.len=0)))∧Below w.heap.size w w':=by
 by_cases h:k.len=0
 ·have t:(k.len:Int)=0:=by omega
  go_enter Tryz.func118,Tryz.ntmps118
  go_wp2
  go_ret
  exact ⟨by simp [h],bE0⟩
 ·have t:¬ (k.len:Int)=0:=by omega
  go_enter Tryz.func118,Tryz.ntmps118
  go_wp2
  go_ret
  exact ⟨by simp [h],bE0⟩
end zl4
end
section
open Go.RowKit
namespace WFirst
set_option linter.unusedSimpArgs false in
set_option maxRecDepth 100000 in
set_option maxHeartbeats 1000000 in
theorem zu6 (N:Nat→Prop) (n:Nat) (hn:n≤1000):∀ (K:Pl.Fx) (L:List Pl.Nd) (q:Nat) (m:Int) (v:Value) (w:World),K.sz≤n→Mem.ownM w q L→Mem.layX w N K v→
  Calls Tryz.prog 89 #[.agg #[.map (some q), .int .i64 m,v]] w fun e w'=>(∃qf mf,e= .returned (.agg #[.map (some qf), .int .i64 mf])∧Mem.zn5 w K q v qf∧Mem.ownM w qf (Pl.zd6 L K))∧Below w.heap.size w w':=by
 have base:∀ (L:List Pl.Nd) (q:Nat) (m:Int) (a:Option Addr) (cap:Nat) (w:World),Mem.ownM w q L→Calls Tryz.prog 89 #[.agg #[.map (some q), .int .i64 m, .slice a 0 cap]] w fun e w'=>(∃qf mf,e= .returned (.agg #[.map (some qf), .int .i64 mf])∧Mem.zn5 w .nil q (.slice a 0 cap) qf∧Mem.ownM w qf (Pl.zd6 L .nil))∧Below w.heap.size w w':=by
  intro L q m a cap w hm;have b0:Below w.heap.size w ((w.alloc (.cells #[.map (some q), .int .i64 m, .slice a 0 cap] 83)).alloc (.cells #[.map none, .int .i64 0] 80)):=(bE0).alloc (by simp) _;have A0:=(Mem.Blk.new w #[.map (some q), .int .i64 m, .slice a 0 cap] 83).alloc (.cells #[.map none, .int .i64 0] 80);have R0:Mem.Blk ((w.alloc (.cells #[.map (some q), .int .i64 m, .slice a 0 cap] 83)).alloc (.cells #[.map none, .int .i64 0] 80)) (w.heap.size+1) #[.map none, .int .i64 0] 80:=Mem.zg4 _ _ _;have hlf:=hide (zl4.zx0 .nil (some q) m a cap);simp only [Pl.Fo.len] at hlf;have HM:=hide hm;clear hm
  go_enter Tryz.func89,Tryz.ntmps89
  go_wp2_with fail
  generalize (w.alloc (.cells #[.map (some q), .int .i64 m, .slice a 0 cap] 83)).alloc (.cells #[.map none, .int .i64 0] 80)=w2 at b0 A0 R0 ⊢;refine (za hlf _).mono ?_;rintro e w1 ⟨rfl,b1⟩;have bb:=b0.trans (b1.mono b0.size);have A1:=A0.call b1;have R1:=R0.call b1;obtain ⟨c0,c1⟩:=jc2 A1;obtain ⟨⟨d0,d1⟩,f0,f1⟩:=jf2 R1;have HB:=hide bb;clear hlf A0 R0 A1 R1 b0 b1 bb;go_wp2
  refine bodyPost_ret (v:= .agg #[.map (some q), .int .i64 m]) (by simp [results,Tryz.results89,go_sem,d0,d1]) rfl ⟨⟨q,m,rfl, .inl ⟨rfl,rfl⟩,za HM⟩,?_⟩;exact ((za HB).setCell (by show w.heap.size≤w.heap.size+1;omega) _).setCell (by show w.heap.size≤w.heap.size+1;omega) _
 induction n with
 |zero=>
  intro K L q m v w hs hm hl;obtain ⟨a,cap,rfl, -⟩:=hl;cases K with
  |nil=>exact base L q m a cap w hm
  |cons L' k' m'=>simp [Pl.Fx.sz] at hs
 |succ n ih=>
  intro K L q m v w hs hm hl;obtain ⟨a,cap,rfl,hrow⟩:=hl;cases K with
  |nil=>exact base L q m a cap w hm
  |cons L1 k1 m1=>
   rcases hrow with h|⟨g,rfl,hcap,hrow⟩
   ·cases h
   obtain ⟨⟨q1,a1,cap1,c0,c1,c2,hg,hN,hNq,hm1,hsub⟩, -⟩:=hrow;have hlen:(Pl.Fx.cons L1 k1 m1).len=m1.len+1:=rfl;simp only [Pl.Fx.sz] at hs;have t1:(0:Int)<((m1.len+1:Nat):Int):=by omega
   have HL:Mem.layX w N k1 (.slice a1 k1.len cap1):=⟨a1,cap1,rfl,hsub⟩;have b0:Below w.heap.size w ((w.alloc (.cells #[.map (some q), .int .i64 m, .slice (some ⟨g,0,none⟩) (m1.len+1) cap] 83)).alloc (.cells #[.map none, .int .i64 0] 80)):=(bE0).alloc (by simp) _;have A0:=(Mem.Blk.new w #[.map (some q), .int .i64 m, .slice (some ⟨g,0,none⟩) (m1.len+1) cap] 83).alloc (.cells #[.map none, .int .i64 0] 80);have R0:Mem.Blk ((w.alloc (.cells #[.map (some q), .int .i64 m, .slice (some ⟨g,0,none⟩) (m1.len+1) cap] 83)).alloc (.cells #[.map none, .int .i64 0] 80)) (w.heap.size+1) #[.map none, .int .i64 0] 80:=Mem.zg4 _ _ _
   have hlf:=hide (zl4.zx0 (Pl.Fx.cons L1 k1 m1).shape (some q) m (some ⟨g,0,none⟩) cap);rw [Pl.Fx.zy2,show decide ((Pl.Fx.cons L1 k1 m1).len=0)=false from decide_eq_false (by omega)] at hlf;rw [hlen] at hlf ⊢;have HI:=hide (fun W (b:Below w.heap.size w W)=>ih (by omega) k1 L1 q1 (k1.len:Int) (.slice a1 k1.len cap1) W (by omega) (hm1.call b) (Mem.zk4 HL b));have HC:Hid (∀W,Below w.heap.size w W→W.cell? ⟨g,0,none⟩=some (.map (some q1))∧W.cell? ⟨g,1,none⟩=some (.int .i64 (k1.len:Int))∧W.cell? ⟨g,2,none⟩=some (.slice a1 k1.len cap1)):=fun W b=>⟨(b.cell (p:=⟨g,_,none⟩) hg).trans c0,(b.cell (p:=⟨g,_,none⟩) hg).trans c1,(b.cell (p:=⟨g,_,none⟩) hg).trans c2⟩
   have HF:Hid (∀W qf,Below w.heap.size w W→Mem.zn5 W k1 q1 (.slice a1 k1.len cap1) qf→Mem.ownM W qf (Pl.zd6 L1 k1)→Mem.zn5 w (.cons L1 k1 m1) q (.slice (some ⟨g,0,none⟩) (m1.len+1) cap) qf∧Mem.ownM w qf (Pl.zd6 L (.cons L1 k1 m1))):=fun W qf b hf ho=>by
    have hlt:qf<w.heap.size∧qf=Mem.zi4 w (.cons L1 k1 m1) g 0:=by
     rcases hf with ⟨rfl,rfl⟩|⟨hk,b',n',cap',e1,e2⟩
     ·exact ⟨hm1.lt,by rw [Mem.zi4,c0];rfl⟩
     ·injection e1 with e1 e3 e4
      rcases hsub with hsub|⟨b'',e5,h6,h7⟩
      ·exact absurd hsub hk
      rw [e5] at e1;cases e1
      have he:Mem.zi4 W k1 b' 0=Mem.zi4 w k1 b' 0:=Mem.yd6 (fun j _ hj=>b.block j hj) k1 b' 0 h7;refine ⟨?_,?_⟩
      ·rw [e2,he];exact Mem.firstQ_lt k1 b' 0 hk h7
      ·rw [e2,he];subst e5;cases k1 with
       |nil=>exact absurd rfl hk
       |cons L2 k2 m2=>rw [Mem.zi4,c2];rfl
    exact ⟨.inr ⟨by simp,g,_,cap,rfl,hlt.2⟩,ho.same (b.block qf hlt.1).symm⟩
   clear ih base hsub HL c0 c1 c2 hlen hm hm1;go_enter Tryz.func89,Tryz.ntmps89
   go_wp2_with fail
   generalize (w.alloc (.cells #[.map (some q), .int .i64 m, .slice (some ⟨g,0,none⟩) (m1.len+1) cap] 83)).alloc (.cells #[.map none, .int .i64 0] 80)=w2 at b0 A0 R0 ⊢;refine (za hlf _).mono ?_;rintro e w1 ⟨rfl,b1⟩;have bb:=b0.trans (b1.mono b0.size);have R1:=R0.call b1;have c02:=(A0.call b1).cell 2;simp only [kGs] at c02;obtain ⟨d0,d1,d2⟩:=za HC w1 bb;have hcall:=hide (za HI w1 bb);clear b0 b1 hlf A0 R0 HI HC;go_wp2_with fail
   refine (za hcall).mono ?_;rintro e wX ⟨⟨qf,mf,rfl,hf,ho⟩,bX⟩;obtain ⟨g1,g2⟩:=za HF w1 qf bb hf ho;have bw2:=bb.trans (bX.mono bb.size);have R2:=R1.call bX;obtain ⟨⟨e0,e1⟩,f0,f1⟩:=jf2 R2;have HG:=hide (⟨g1,g2⟩:_∧_);have HB:=hide bw2;clear bb bX hcall d0 d1 d2 c02 hf ho HF R1 R2 g1 g2 bw2;go_wp2
   refine bodyPost_ret (v:= .agg #[.map (some qf), .int .i64 mf]) (by simp [results,Tryz.results89,go_sem,e0,e1]) rfl ⟨⟨qf,mf,rfl,(za HG).1,(za HG).2⟩,?_⟩;exact ((za HB).setCell (by show w.heap.size≤w.heap.size+1;omega) _).setCell (by show w.heap.size≤w.heap.size+1;omega) _
end WFirst
end
section
open Go.RowKit
namespace zl4
set_option linter.unusedSimpArgs false in
set_option maxRecDepth 100000 in
set_option maxHeartbeats 1000000 in
theorem yi4 (N:Nat→Prop) (n:Nat) (hn:n≤1000):∀ (k:Pl.Fo) (q:Option Nat) (m:Int) (v:Value) (w:World),k.sz≤n→Mem.lay w N k v→
  Calls Tryz.prog 90 #[.agg #[.map q, .int .i64 m,v]] w fun e w'=>e= .returned (.int .i64 (k.level:Int))∧Below w.heap.size w w':=by
 have base:∀ (q:Option Nat) (m:Int) (a:Option Addr) (cap:Nat) (w:World),Calls Tryz.prog 90 #[.agg #[.map q, .int .i64 m, .slice a 0 cap]] w fun e w'=>e= .returned (.int .i64 0)∧Below w.heap.size w w':=by
  intro q m a cap w;have b0:Below w.heap.size w (w.alloc (.cells #[.map q, .int .i64 m, .slice a 0 cap] 83)):=bE0;have hlf:=hide (zx0 .nil q m a cap);simp only [Pl.Fo.len] at hlf;go_enter Tryz.func90,Tryz.ntmps90
  go_wp2_with fail
  refine (za hlf _).mono ?_;rintro e w1 ⟨rfl,b1⟩;have bb:=b0.trans (b1.mono b0.size);clear b0 b1 hlf;go_wp2
  go_ret
  exact ⟨rfl,bb⟩
 induction n with
 |zero=>
  intro k q m v w hs hl;obtain ⟨a,cap,rfl, -⟩:=hl;cases k with
  |nil=>exact base q m a cap w
  |cons a b=>simp [Pl.Fo.sz] at hs
 |succ n ih=>
  intro k q m v w hs hl;obtain ⟨a,cap,rfl,hrow⟩:=hl;cases k with
  |nil=>exact base q m a cap w
  |cons k0 m0=>
   rcases hrow with h|⟨g,rfl,hrow⟩
   ·cases h
   obtain ⟨⟨x,y,a1,cap1,c0,c1,c2,hg,hN,⟨q1,rfl⟩,⟨r1,rfl⟩,hsub⟩, -⟩:=hrow;have hlen:(Pl.Fo.cons k0 m0).len=m0.len+1:=rfl;have hlv:(Pl.Fo.cons k0 m0).level=1+k0.level:=rfl;have hkd:=Pl.level_le k0;have hkz:=k0.depth_le;simp only [Pl.Fo.sz] at hs;have t1:(0:Int)<((m0.len+1:Nat):Int):=by omega
   have HL:Mem.lay w N k0 (.slice a1 k0.len cap1):=⟨a1,cap1,rfl,hsub⟩;have b0:Below w.heap.size w (w.alloc (.cells #[.map q, .int .i64 m, .slice (some ⟨g,0,none⟩) (m0.len+1) cap] 83)):=bE0;have A0:=Mem.Blk.new w #[.map q, .int .i64 m, .slice (some ⟨g,0,none⟩) (m0.len+1) cap] 83;have hlf:=hide (zx0 (.cons k0 m0) q m (some ⟨g,0,none⟩) cap);rw [show decide ((Pl.Fo.cons k0 m0).len=0)=false from decide_eq_false (by omega)] at hlf;rw [hlen] at hlf ⊢;rw [hlv];have HI:=hide (fun W (b:Below w.heap.size w W)=>ih (by omega) k0 q1 r1 _ W (by omega) (Mem.lay_call HL b))
   have HC:Hid (∀W,Below w.heap.size w W→W.cell? ⟨g,0,none⟩=some (.map q1)∧W.cell? ⟨g,1,none⟩=some (.int .i64 r1)∧W.cell? ⟨g,2,none⟩=some (.slice a1 k0.len cap1)):=fun W b=>⟨(b.cell (p:=⟨g,_,none⟩) hg).trans c0,(b.cell (p:=⟨g,_,none⟩) hg).trans c1,(b.cell (p:=⟨g,_,none⟩) hg).trans c2⟩;clear ih base hsub HL c0 c1 c2 hlen hlv;go_enter Tryz.func90,Tryz.ntmps90
   go_wp2_with fail
   generalize w.alloc (.cells #[.map q, .int .i64 m, .slice (some ⟨g,0,none⟩) (m0.len+1) cap] 83)=w2 at b0 A0 ⊢;refine (za hlf _).mono ?_;rintro e w1 ⟨rfl,b1⟩;have bb:=b0.trans (b1.mono b0.size);have c02:=(A0.call b1).cell 2;simp only [kGs] at c02;obtain ⟨d0,d1,d2⟩:=za HC w1 bb;have hcall:=hide (za HI w1 bb);clear b0 b1 hlf A0 HI HC;go_wp2_with fail
   refine (za hcall).mono ?_;rintro e wX ⟨rfl,bX⟩;have bw2:=bb.trans (bX.mono bb.size);clear bb bX hcall d0 d1 d2 c02;go_wp2
   go_ret
   exact ⟨by simp,bw2⟩
end zl4
end
section
open Go.RowKit Go.Maps
namespace zq4
theorem rise_tree (B:Nat) (L:List Pl.Nd) (w:World) (ht:Pl.za5 L=true) (hm:Mem.ownM w B L):
  Calls Tryz.prog 110 #[.map (some B)] w fun e w'=>∃v,e= .returned v∧Mem.ownN w' w.heap.size v L∧Below w.heap.size w w':=
 zm6.any B 40 L L (MapN.mapOf L) w hm (by omega) (MapN.zj6 (Pl.zx9 ht)) (Pl.zx9 ht) (List.Perm.refl _) (Pl.tree_rise' ht) (fun n hn=>by
  have h2:=(((Pl.ze2 _).1 ht).2.1 n hn).1;have h4:=(Pl.zd8 h2).1
  exact ⟨(Pl.zb1 h2).1,by omega⟩)
end zq4
end
section
open Go.RowKit Go.Maps
namespace ya9
set_option maxRecDepth 100000 in
theorem in_over (B:Nat) (v:Value) (Bs:List Nat) (Ls:List (List Pl.Nd)) (w:World) (hov:zh9.Ov w B v Bs Ls) (h4:Ls.length≤4) (htr:∀L∈Ls,Pl.za5 L=true):
  Calls Tryz.prog 140 #[.iface 182 v] w fun e w'=>e= .returned (.map (some w.heap.size))∧Whole w w' Ls w.heap.size:=by
 have hg:=hide (gathered_any B v Bs Ls w hov h4 htr);obtain ⟨a,cap,rfl⟩:=zk1.zt6 hov;have h1:=no_map a Ls.length cap;have h2:=is_over a Ls.length cap;clear hov;go_enter Tryz.func140,Tryz.ntmps140
 go_wp2_with fail
 refine (za hg).mono ?_;rintro e w1 ⟨rfl,h⟩;clear hg h1 h2;go_wp2
 go_ret
 exact ⟨rfl,h⟩
def WholeIs (w w':World) (Ls:List (List Pl.Nd)) (x:Nat→Addr) (e:Ending):Prop:=
 (∃N D C,e= .returned (.tuple #[.map (some w.heap.size), .nilIface])∧C.length≤40∧N≤200∧Gk w w' Ls w.heap.size N D C∧∀n,n∈C↔Pl.zo9 Ls n)∨
 (∃C:List Pl.Nd,e= .returned (.tuple #[.map none, .iface 242 (.pointer (some (x 5)))])∧40<C.length∧C.Pairwise (fun a b=>a.path≠b.path)∧(∀n,n∈C↔Pl.zo9 Ls n)∧Below w.heap.size w w')
set_option maxRecDepth 100000 in
set_option maxHeartbeats 400000 in
theorem whole_any (B:Nat) (v:Value) (Bs:List Nat) (Ls:List (List Pl.Nd)) (w:World) (hov:zh9.Ov w B v Bs Ls) (h4:Ls.length≤4) (htr:∀L∈Ls,Pl.za5 L=true) (x:Nat→Addr) (hE:WIs.Six w x):
  Calls Tryz.prog 128 #[v] w fun e w'=>WholeIs w w' Ls x e:=by
 have hg:=hide (in_over B v Bs Ls w hov h4 htr);obtain ⟨a,cap,rfl⟩:=zk1.zt6 hov;have HE:=hide hE;clear hov hE;go_enter Tryz.func128,Tryz.ntmps128
 go_wp2_with fail
 refine (za hg).mono ?_;rintro e w1 ⟨rfl,N,D,C,hN,G,hC⟩;clear hg;have KG:=hide G;have HC:=hide hC;have hsz:=G.gt.size;have hk:=((za HE).call G.bel).c5;clear G hC;by_cases hl:40<C.length
 ·have y1:(40:Int)<(Maps.size D:Int):=by omega
  go_wp2_with (first
   |(at_len;refine wpList_len_own _ rfl _ 78 rfl 9 47 Tryz.underlying78 _ w.heap.size N D rfl (za KG).map ?_)
   |go_in)
  go_region
  go_wp2
  go_ret2
  exact .inr ⟨C,rfl,hl,(za KG).gt.apart,za HC,Mem.below_drewN (za KG).bel 1⟩
 ·have y1:¬ (40:Int)<(Maps.size D:Int):=by omega
  go_wp2_with (first
   |(at_len;refine wpList_len_own _ rfl _ 78 rfl 9 47 Tryz.underlying78 _ w.heap.size N D rfl (za KG).map ?_)
   |go_in)
  go_ret2
  exact .inl ⟨N,D,C,rfl,by omega,hN,za KG,za HC⟩
end ya9
end
section
open Go.RowKit Go.Maps
namespace WAsLeaf
structure Oq (w:World) (S:Nat) (v:Value) (Bs:List Nat) (Ls:List (List Pl.Nd)):Prop where
 row:w.ownsRow S 203 1 v Bs.length (Bs.map zh9.layV)
 len:Bs.length=Ls.length
 maps:∀ (j:Nat) b L,Bs[j]? =some b→Ls[j]? =some L→Mem.ownM w b L
theorem Oq.ov {w:World} {S:Nat} {v:Value} {Bs:List Nat} {Ls:List (List Pl.Nd)} (h:Oq w S v Bs Ls):zh9.Ov w 0 v Bs Ls:=by
 refine ⟨⟨h.row.1,?_⟩,h.len,fun j b L h1 h2=>⟨Nat.zero_le _,h.maps j b L h1 h2⟩⟩
 rcases h.row.2 with h0|⟨g,cap,cur,hv,hb,rest⟩
 ·exact .inl h0
 ·exact .inr ⟨g,cap,cur,hv,Nat.zero_le _,rest⟩
theorem Oq.call {w w':World} {S:Nat} {v:Value} {Bs:List Nat} {Ls:List (List Pl.Nd)} (h:Oq w S v Bs Ls) (b:Below w.heap.size w w'):Oq w' S v Bs Ls:=
 ⟨zh9.zk9 h.row b,h.len,fun j c L h1 h2=>(h.maps j c L h1 h2).call b⟩
theorem Oq.put {w w':World} {S b:Nat} {v v':Value} {Bs:List Nat} {Ls:List (List Pl.Nd)} {L:List Pl.Nd} (h:Oq w S v Bs Ls) (hm:Mem.ownM w b L)
  (hr:w'.ownsRow S 203 1 v' (Bs.length+1) (Bs.map zh9.layV++[zh9.layV b])) (hg:w.grownBy w' v.ownBlock):Oq w' S v' (Bs++[b]) (Ls++[L]):=by
 refine ⟨by simpa using hr,by simp [h.len],fun j c M h1 h2=>?_⟩;by_cases e:j<Bs.length
 ·rw [List.getElem?_append_left e] at h1;rw [List.getElem?_append_left (by rw [←h.len];exact e)] at h2;have h4:=h.maps j c M h1 h2;exact h4.grown hg (zh9.map_not h.row h4)
 ·rw [List.getElem?_append_right (by omega)] at h1;rw [List.getElem?_append_right (by rw [←h.len];omega)] at h2
  have e0:j - Bs.length=0:=by
   have :=(List.getElem?_eq_some_iff.1 h1).1;simp at this;omega
  rw [e0] at h1;rw [←h.len,e0] at h2;simp at h1 h2
  subst h1 h2;exact hm.grown hg (zh9.map_not h.row hm)
def Leafed (w':World) (x:Nat→Addr) (VV:Option (List Pl.Nd)) (e:Ending):Prop:=
 (∃V q m,VV=some V∧e= .returned (.tuple #[.agg #[.map (some q), .int .i64 m], .nilIface])∧Mem.ownM w' q V)∨
 (VV=none∧e= .returned (.tuple #[.agg #[.map none, .int .i64 0], .iface 242 (.pointer (some (x 5)))]))
theorem told_map {w:World} {q N:Nat} {Ls:List (List Pl.Nd)} {D:DataW Unit} {C:List Pl.Nd} (h:w.ownsMap Tryz.prog 9 MapN.elem q N D) (g:MapN.Gt Ls D C) (hC:∀n,n∈C↔Pl.zo9 Ls n) (h4:Ls.length≤4) (htr:∀L∈Ls,Pl.za5 L=true) (hl:C.length≤40):Pl.zv9 (some Ls)=some (Pl.allO Ls)∧Mem.ownM w q (Pl.allO Ls):=by
 have ha:=Pl.all_told h4 htr;have hp:=Pl.all_perm htr ha g.apart hC;have hle:(Pl.allO Ls).length≤40:=by rw [hp.length_eq];exact hl
 have ht:=Pl.all_tree h4 htr hle;have e:=MapN.is_mapOf h g (Pl.zx9 ht) (fun n=>(hC n).trans (ha.mem n).symm);refine ⟨if_pos hle,?_⟩;subst e;exact Mem.tight h (by rw [MapN.zv8 (Pl.zx9 ht)];exact hle)
theorem told_long {Ls:List (List Pl.Nd)} {C:List Pl.Nd} (ap:C.Pairwise (fun a b=>a.path≠b.path)) (hC:∀n,n∈C↔Pl.zo9 Ls n) (h4:Ls.length≤4) (htr:∀L∈Ls,Pl.za5 L=true) (hl:40<C.length):Pl.zv9 (some Ls)=none:=by
 have hp:=Pl.all_perm htr (Pl.all_told h4 htr) ap hC;exact if_neg (by rw [hp.length_eq];omega)
set_option linter.unusedSimpArgs false in
set_option maxRecDepth 100000 in
set_option maxHeartbeats 2000000 in
theorem leaf_as (x:Nat→Addr) (n:Nat) (hn:n≤1000):∀ (N:Nat→Prop) (K:Pl.Fx) (L:List Pl.Nd) (q:Nat) (m:Int) (v:Value) (w:World),K.sz≤n→(Pl.Fx.cons L K .nil).okX→Mem.ownM w q L→Mem.layX w N K v→WIs.Six w x→
  Calls Tryz.prog 109 #[.agg #[.map (some q), .int .i64 m,v]] w fun e w'=>Leafed w' x (Pl.zi1 L K) e∧Below w.heap.size w w':=by
 obtain ⟨i0,hi,hz0,hz1,hz2⟩:=info_parts zh9.infoL
 have base:∀ (L:List Pl.Nd) (q:Nat) (m:Int) (a:Option Addr) (cap:Nat) (w:World),Mem.ownM w q L→Calls Tryz.prog 109 #[.agg #[.map (some q), .int .i64 m, .slice a 0 cap]] w fun e w'=>Leafed w' x (some L) e∧Below w.heap.size w w':=by
  intro L q m a cap w hm;have b0:Below w.heap.size w ((w.alloc (.cells #[.map (some q), .int .i64 m, .slice a 0 cap] 83)).alloc (.cells #[.map none, .int .i64 0] 80)):=(bE0).alloc (by simp) _;have A0:=(Mem.Blk.new w #[.map (some q), .int .i64 m, .slice a 0 cap] 83).alloc (.cells #[.map none, .int .i64 0] 80);have R0:Mem.Blk ((w.alloc (.cells #[.map (some q), .int .i64 m, .slice a 0 cap] 83)).alloc (.cells #[.map none, .int .i64 0] 80)) (w.heap.size+1) #[.map none, .int .i64 0] 80:=Mem.zg4 _ _ _;have hlf:=hide (zl4.zx0 .nil (some q) m a cap);simp only [Pl.Fo.len] at hlf;have HM:=hide (hm.call b0);have hql:=hm.lt;clear hm
  go_enter Tryz.func109,Tryz.ntmps109
  go_wp2_with fail
  generalize (w.alloc (.cells #[.map (some q), .int .i64 m, .slice a 0 cap] 83)).alloc (.cells #[.map none, .int .i64 0] 80)=w2 at b0 A0 R0 HM ⊢;refine (za hlf _).mono ?_;rintro e w1 ⟨rfl,b1⟩;have bb:=b0.trans (b1.mono b0.size);have A1:=A0.call b1;have R1:=R0.call b1;have M1:=hide (((za HM).call b1).set ⟨w.heap.size+1,0,none⟩ (.map (some q)) (by show q≠w.heap.size+1;omega));have M2:=hide ((za M1).set ⟨w.heap.size+1,1,none⟩ (.int .i64 m) (by show q≠w.heap.size+1;omega));obtain ⟨c0,c1⟩:=jc2 A1;obtain ⟨⟨d0,d1⟩,f0,f1⟩:=jf2 R1;have HB:=hide bb;clear hlf A0 R0 A1 R1 HM M1 b0 b1 bb;go_wp2
  refine bodyPost_ret (v:= .tuple #[.agg #[.map (some q), .int .i64 m], .nilIface]) (by simp [results,Tryz.results109,go_sem,d0,d1]) rfl ⟨Or.inl ⟨L,q,m,rfl,rfl,za M2⟩,?_⟩;exact ((za HB).setCell (by show w.heap.size≤w.heap.size+1;omega) _).setCell (by show w.heap.size≤w.heap.size+1;omega) _
 induction n with
 |zero=>
  intro N K L q m v w hs hx hm hl hE;obtain ⟨a,cap,rfl, -⟩:=hl;cases K with
  |nil=>exact base L q m a cap w hm
  |cons L' k' m'=>simp [Pl.Fx.sz] at hs
 |succ n ih=>
  intro N K L q m v w hs hx hm hl hE;obtain ⟨a,cap,rfl,hrow⟩:=hl;by_cases hK0:K.len=0
  ·have e:=Pl.Fx.yg5 hK0;subst e;exact base L q m a cap w hm
  rcases hrow with h|⟨g,rfl, -,hrow⟩
  ·rw [h] at hK0;exact absurd rfl hK0
  rw [Pl.yi5 hK0];have hK4:K.len≤4:=hx.2.2.1;have HKX:=hide hx.2.2.2.1;have b0:Below w.heap.size w ((w.alloc (.cells #[.map (some q), .int .i64 m, .slice (some ⟨g,0,none⟩) K.len cap] 83)).alloc (.cells #[.map none, .int .i64 0] 80)):=(bE0).alloc (by simp) _;have A0:=(Mem.Blk.new w #[.map (some q), .int .i64 m, .slice (some ⟨g,0,none⟩) K.len cap] 83).alloc (.cells #[.map none, .int .i64 0] 80);have R0:Mem.Blk ((w.alloc (.cells #[.map (some q), .int .i64 m, .slice (some ⟨g,0,none⟩) K.len cap] 83)).alloc (.cells #[.map none, .int .i64 0] 80)) (w.heap.size+1) #[.map none, .int .i64 0] 80:=Mem.zg4 _ _ _;have HI:=hide (ih (by omega))
  have HRW:=hide (Mem.zp4 (Mem.zn8 (N':=fun b=>b<w.heap.size) (fun b _ hb=>⟨hb,hb,rfl⟩) K g 0 hrow) b0);have HE:=hide (fun W (b:Below w.heap.size w W)=>hE.call b);have hlf:=hide (zl4.zx0 K.shape (some q) m (some ⟨g,0,none⟩) cap);rw [Pl.Fx.zy2,show decide (K.len=0)=false from decide_eq_false hK0] at hlf;clear ih hrow base hx hm hE;go_enter Tryz.func109,Tryz.ntmps109
  go_wp2_with fail
  generalize (w.alloc (.cells #[.map (some q), .int .i64 m, .slice (some ⟨g,0,none⟩) K.len cap] 83)).alloc (.cells #[.map none, .int .i64 0] 80)=w2 at b0 A0 R0 HRW ⊢;refine (za hlf _).mono ?_;rintro e w1 ⟨rfl,b1⟩;have bb:=b0.trans (b1.mono b0.size);have c02:=(A0.call b1).cell 2;simp only [kGs] at c02;have RR:=hide (R0.call b1);have RW:Hid (Mem.rowX w1 (fun b=>b<w.heap.size) K g (0*3)):=hide (by simpa using Mem.zp4 (za HRW) b1);have OQ0:Hid (Oq w1 (w.heap.size+2) (.slice none 0 0) [] []):=⟨⟨by rfl, .inl ⟨rfl,rfl⟩⟩,rfl,fun j b L h=>by simp at h⟩;have SF0:=hide (Pl.yk4 K);clear b0 b1 hlf A0 R0 HRW;go_wp2
  go_loopw [4,18] (fun v i wr=>∃ (j:Nat) (Bs:List Nat) (Ls:List (List Pl.Nd)) (F:Pl.Fx),i= .int .i64 (j:Int)∧j+F.len=K.len∧Bs.length=j∧F.sz≤n+1∧Below w.heap.size w wr∧Hid (Oq wr (w.heap.size+2) v Bs Ls)∧Hid (Mem.rowX wr (fun b=>b<w.heap.size) F g (j*3))∧Hid (Pl.zv5 K F Ls)∧Hid F.okX∧Hid (Mem.Blk wr (w.heap.size+1) #[.map none, .int .i64 0] 80)) (fun _ i _=>K.len - (intOf i).toNat)
  case atStart=>exact ⟨0,[],[],K,rfl,by omega,rfl,hs,bb,OQ0,RW,SF0,HKX,RR⟩
  case round=>
   obtain ⟨j,Bs,Ls,F,rfl,hj,hBs,hsz,hbel,OQ,HR,SF,FX,RB⟩:=hrel;clear RW bb c02 OQ0 SF0 RR;cases F with
   |nil=>
    simp only [Pl.Fx.len] at hj;have u1:¬ (j:Int)<(K.len:Int):=by omega
    have hvs:=Pl.seenF_end (za SF);obtain ⟨hLl,htr⟩:=Pl.views_ok K Ls (za HKX) hvs;have hwh:=hide (ya9.whole_any 0 _ Bs Ls wr (za OQ).ov (by omega) htr x (za HE _ hbel));have HTM:=hide (fun W N D C (h:World.ownsMap W Tryz.prog 9 MapN.elem wr.heap.size N D) g hC hl=>told_map (w:=W) (q:=wr.heap.size) (N:=N) (D:=D) (C:=C) h g hC (by omega) htr hl);have HTL:=hide (fun C ap hC hl=>told_long (Ls:=Ls) (C:=C) ap hC (by omega) htr hl);obtain ⟨va,vc,hv⟩:=zk1.zt6 (za OQ).ov;subst hv;have hVS:Hid (Pl.zh8 K=some Ls):=hvs;clear htr hvs OQ HR SF FX hLl;go_wp2_with fail
    refine (za hwh).mono ?_;rintro e w3 h3;clear hwh
    rcases h3 with ⟨N3,D,C,rfl,hC4, -,G,hC⟩|⟨C,rfl,hC4,hap,hC,b2⟩
    ·obtain ⟨e1,m1⟩:=za HTM w3 N3 D C G.map G.gt hC hC4;have E1:Hid (Pl.zv9 (Pl.zh8 K)=some (Pl.allO Ls)):=hide (by rw [za hVS];exact e1);have hlt:=(za RB).lt;have R3:=(za RB).call G.bel;have B3:=hide (hbel.trans (G.bel.mono hbel.size));have M3:=hide ((m1.set ⟨w.heap.size+1,0,none⟩ (.map (some wr.heap.size)) (by show wr.heap.size≠w.heap.size+1;omega)).set ⟨w.heap.size+1,1,none⟩ (.int .i64 0) (by show wr.heap.size≠w.heap.size+1;omega));obtain ⟨⟨d0,d1⟩,f0,f1⟩:=jf2 R3;clear G hC e1 m1 R3 HTM HTL RB hVS HE;go_wp2
     refine bodyPost_ret (v:= .tuple #[.agg #[.map (some wr.heap.size), .int .i64 0], .nilIface]) (by simp [results,Tryz.results109,go_sem,d0,d1]) rfl ⟨Or.inl ⟨_,_,_,za E1,rfl,za M3⟩,?_⟩;exact ((za B3).setCell (by show w.heap.size≤w.heap.size+1;omega) _).setCell (by show w.heap.size≤w.heap.size+1;omega) _
    ·have E1:Hid (Pl.zv9 (Pl.zh8 K)=none):=hide (by rw [za hVS];exact za HTL C hap hC hC4);have R3:=(za RB).call b2;have B3:=hide (hbel.trans (b2.mono hbel.size));obtain ⟨⟨d0,d1⟩,f0,f1⟩:=jf2 R3;clear hC hap R3 HTM HTL RB hVS HE b2;go_wp2
     refine bodyPost_ret (v:= .tuple #[.agg #[.map none, .int .i64 0], .iface 242 (.pointer (some (x 5)))]) (by simp [results,Tryz.results109,go_sem,d0,d1]) rfl ⟨Or.inr ⟨za E1,rfl⟩,?_⟩
     first |exact za B3|exact ((za B3).setCell (by show w.heap.size≤w.heap.size+1;omega) _).setCell (by show w.heap.size≤w.heap.size+1;omega) _
   |cons L1 k1 m1=>
    simp only [Pl.Fx.len,Pl.Fx.sz] at hj hsz;obtain ⟨g1,g2,g3,g5,g6⟩:=za FX;obtain ⟨⟨q1,a1,cap1,c0,c1,c2,hg,hNg,hNq,hm1,hsub⟩,hrest⟩:=za HR;have u1:(j:Int)<(K.len:Int):=by omega
    have u3:(0:Int)≤(j:Int):=by omega
    have bA:Below wr.heap.size wr (wr.alloc (.cells #[.map (some q1), .int .i64 (k1.len:Int), .slice a1 k1.len cap1] 83)):=bE0;have HL:Mem.layX wr (fun b=>b<w.heap.size) k1 (.slice a1 k1.len cap1):=⟨a1,cap1,rfl,hsub⟩;have bw:=hbel.trans (bA.mono hbel.size);have hcall:=hide (za HI (fun b=>b<w.heap.size) k1 L1 q1 (k1.len:Int) _ _ (by omega) ⟨g1,g2,g3,g5,trivial⟩ (hm1.call bA) (Mem.zk4 HL bA) (za HE _ bw));have HRR:=hide (Mem.zp4 hrest bA);have OA:=hide ((za OQ).call bA);have RA:=hide ((za RB).call bA);have G6:=hide g6;have hsw:=hbel.size;clear hsub hrest HL HR OQ RB FX g1 g2 g5 g6 hm1;go_wp2_with fail
    refine (za hcall).mono ?_;rintro e wX ⟨hX,bX⟩;have bw2:=bw.trans (bX.mono bw.size);clear hcall
    rcases hX with ⟨V,q2,m2,hV,rfl,hm2⟩|⟨hV,rfl⟩
    ·have SF2:=hide (Pl.ym (za SF) hV);have bA2:Below wX.heap.size wX ((wX.alloc (.cells #[.map (some q2), .int .i64 m2] 80)).alloc (.cells #[zh9.layV q2] 203)):=(bE0).alloc (by simp) _;have bb2:=bX.trans (bA2.mono bX.size);have O2:=(za OA).call bb2;have M2:=hm2.call bA2;have HP:=hide (fun v' w4 h1 h2=>O2.put (v':=v') (w':=w4) M2 h1 h2);have HRO:=hide O2.row;have bw3:=bw2.trans (bA2.mono bw2.size);have HQ:=hide (fun w4 (h2:((wX.alloc (.cells #[.map (some q2), .int .i64 m2] 80)).alloc (.cells #[zh9.layV q2] 203)).grownBy w4 _)=>bw3.grown h2 bw3.size (fun k hk=>by have :=(O2.row.lt k hk).1;omega))
     have HGR:=hide (fun w4 (h2:((wX.alloc (.cells #[.map (some q2), .int .i64 m2] 80)).alloc (.cells #[zh9.layV q2] 203)).grownBy w4 _)=>(⟨((za RA).call bb2).grown h2 (fun e=>by have :=(O2.row.lt _ e.symm).1;omega),Mem.zn8 (fun b hb hlt=>⟨hb,Nat.lt_of_lt_of_le hlt h2.size,h2.block b hlt (fun e=>by have :=(O2.row.lt b e.symm).1;omega)⟩) _ _ _ (Mem.zp4 (za HRR) bb2)⟩:Mem.Blk w4 (w.heap.size+1) #[.map none, .int .i64 0] 80∧Mem.rowX w4 (fun b=>b<w.heap.size) m1 g (j*3+3)));have HSB:=hide (show w.heap.size+2≤wX.heap.size by have h1:=(za RA).lt;have h2:=bX.size;omega);clear bA O2 M2 hm2 hV SF OA RA HRR bA2 bb2 bX bw bw3;unfold zh9.layV at HP HRO HQ HGR
     go_wp2_with (at_builtin;refine wpList_append_own _ rfl _ _ 182 rfl (w.heap.size+2) 203 i0 .nilIface 1 16 Tryz.underlying182 hi hz0 hz1 hz2 rfl (by decide) _ _ _ rfl (za HRO) ⟨wX.heap.size+1,0,none⟩ 1 1 [.iface 78 (.map (some q2))] rfl rfl (by have :=Mem.zh5 (wX.alloc (.cells #[.map (some q2), .int .i64 m2] 80)) (.iface 78 (.map (some q2))) 203;simpa using this) (fun u hu=>by simp at hu;subst hu;rfl) (by unfold maxLen;omega) (by omega) (by have :=za HSB;simp;omega) ?_)
     intro v' w4 own' hgrow _;have OV2:=hide (za HP v' w4 (by rw [hBs];exact own') hgrow);have bw4:=za HQ w4 hgrow;obtain ⟨RB2,HR2⟩:=za HGR w4 hgrow;have RB3:=hide RB2;have HR3:=hide HR2;rw [show j*3+3=(j+1)*3 by omega] at HR3;have hBl:(Bs++[q2]).length=j+1:=by simp [hBs]
     have HBL:=hide hBl;clear HP HRO HQ HGR own' hgrow HSB RB2 HR2 hBl;go_wp2
     go_roundw
     case rel=>exact ⟨j+1,Bs++[q2],Ls++[V],m1,by go_num,by omega,za HBL,by omega,bw4,OV2,HR3,SF2,G6,RB3⟩
     case measure=>simp [intOf];omega
    ·have E1:Hid (Pl.zv9 (Pl.zh8 K)=none):=hide (by rw [Pl.yl8 (za SF) hV];rfl);have R3:=((za RA).call bX).alloc (.cells #[.map none, .int .i64 0] 80);have B3:=hide (bw2.alloc bw2.size (.cells #[.map none, .int .i64 0] 80));obtain ⟨⟨d0,d1⟩,f0,f1⟩:=jf2 R3;clear hV SF OA RA HRR bX bw bw2 R3 bA HE HI;go_wp2
     refine bodyPost_ret (v:= .tuple #[.agg #[.map none, .int .i64 0], .iface 242 (.pointer (some (x 5)))]) (by simp [results,Tryz.results109,go_sem,d0,d1]) rfl ⟨Or.inr ⟨za E1,rfl⟩,?_⟩
     first |exact za B3|exact ((za B3).setCell (by show w.heap.size≤w.heap.size+1;omega) _).setCell (by show w.heap.size≤w.heap.size+1;omega) _
end WAsLeaf
end
section
open Go.RowKit
namespace zl4
theorem yh7 {w w':World} {N:Nat→Prop} {F:Pl.Fo} {b i:Nat} (h:Mem.rowF w N F b i) (bb:Below w.heap.size w w'):Mem.rowF w' N F b i:=Mem.rowF_mono (fun g hg hl=>⟨hg,Nat.lt_of_lt_of_le hl bb.size,bb.block g hl⟩) F b i h
set_option linter.unusedSimpArgs false in
set_option maxRecDepth 100000 in
set_option maxHeartbeats 1000000 in
theorem depth_any (N:Nat→Prop) (n:Nat) (hn:n≤1000):∀ (k:Pl.Fo) (q:Option Nat) (m:Int) (v:Value) (w:World),k.sz≤n→Mem.lay w N k v→
  Calls Tryz.prog 76 #[.agg #[.map q, .int .i64 m,v]] w fun e w'=>e= .returned (.int .i64 ((k.depth:Int)+1))∧Below w.heap.size w w':=by
 have base:∀ (q:Option Nat) (m:Int) (a:Option Addr) (cap:Nat) (w:World),Calls Tryz.prog 76 #[.agg #[.map q, .int .i64 m, .slice a 0 cap]] w fun e w'=>e= .returned (.int .i64 1)∧Below w.heap.size w w':=by
  intro q m a cap w;go_enter Tryz.func76,Tryz.ntmps76
  go_wp2
  go_loopw [3,9] (fun d i wr=>d= .int .i64 0∧i= .int .i64 0∧Below w.heap.size w wr) (fun _ _ _=>0)
  case atStart=>exact ⟨rfl,rfl,bE0⟩
  case round=>
   obtain ⟨rfl,rfl,hbel⟩:=hrel;go_wp2
   go_ret
   exact ⟨rfl,hbel⟩
 induction n with
 |zero=>
  intro k q m v w hs hl;obtain ⟨a,cap,rfl, -⟩:=hl;cases k with
  |nil=>exact base q m a cap w
  |cons a b=>simp [Pl.Fo.sz] at hs
 |succ n ih=>
  intro k q m v w hs hl;obtain ⟨a,cap,rfl,hrow⟩:=hl;cases k with
  |nil=>exact base q m a cap w
  |cons k0 m0=>
   rcases hrow with h|⟨g,rfl,hrow⟩
   ·cases h
   generalize hK:Pl.Fo.cons k0 m0=K at *;have hKl:=K.len_le;have hKd:=K.depth_le;have b0:Below w.heap.size w (w.alloc (.cells #[.map q, .int .i64 m, .slice (some ⟨g,0,none⟩) K.len cap] 83)):=bE0;have HI:=hide (ih (by omega));have R0:Hid (Mem.rowF (w.alloc (.cells #[.map q, .int .i64 m, .slice (some ⟨g,0,none⟩) K.len cap] 83)) N K g (0*3)):=hide (by simpa using yh7 hrow b0);clear hK ih hrow base;go_enter Tryz.func76,Tryz.ntmps76
   go_wp2
   go_loopw [3,9] (fun d i wr=>∃ (j dd:Nat) (F:Pl.Fo),d= .int .i64 (dd:Int)∧i= .int .i64 (j:Int)∧j+F.len=K.len∧max dd F.depth=K.depth∧F.sz≤n+1∧Below w.heap.size w wr∧Hid (Mem.rowF wr N F g (j*3))) (fun _ i _=>K.len - (intOf i).toNat)
   case atStart=>exact ⟨0,0,K,rfl,rfl,by omega,by omega,hs,b0,R0⟩
   case round=>
    obtain ⟨j,dd,F,rfl,rfl,hj,hmax,hsz,hbel,HR⟩:=hrel;clear R0 b0;cases F with
    |nil=>
     simp only [Pl.Fo.len,Pl.Fo.depth] at hj hmax;have u1:¬ (j:Int)<(K.len:Int):=by omega
     have hdd:dd=K.depth:=by omega
     subst hdd;go_wp2
     go_ret
     exact ⟨by show Ending.returned (.int .i64 (1+(K.depth:Int)))=_;rw [Int.add_comm],hbel⟩
    |cons k1 m1=>
     simp only [Pl.Fo.len,Pl.Fo.depth,Pl.Fo.sz] at hj hmax hsz;obtain ⟨⟨x,y,a1,cap1,c0,c1,c2,hg,hN,⟨q1,rfl⟩,⟨r1,rfl⟩,hsub⟩,hrest⟩:=za HR;have u1:(j:Int)<(K.len:Int):=by omega
     have u3:(0:Int)≤(j:Int):=by omega
     have bA:Below wr.heap.size wr (wr.alloc (.cells #[.map q1, .int .i64 r1, .slice a1 k1.len cap1] 83)):=bE0;have HL:Mem.lay wr N k1 (.slice a1 k1.len cap1):=⟨a1,cap1,rfl,hsub⟩;have hcall:=hide (za HI k1 q1 r1 _ _ (by omega) (Mem.lay_call HL bA));have HRR:=hide (yh7 hrest bA);have bw:=hbel.trans (bA.mono hbel.size);clear hsub hrest HL HR;go_wp2_with fail
     refine (za hcall).mono ?_;rintro e wX ⟨rfl,bX⟩;have bw2:=bw.trans (bX.mono bw.size);have HR2:=hide (yh7 (za HRR) bX);rw [show j*3+3=(j+1)*3 by omega] at HR2;clear hcall HRR bX bw hbel c0 c1 c2 bA;by_cases hcmp:(dd:Int)≤(k1.depth:Int)+1
     ·have e1:max (dd:Int) ((k1.depth:Int)+1)=(k1.depth:Int)+1:=by omega
      go_wp2
      go_roundw
      case rel=>exact ⟨j+1,k1.depth+1,m1,by go_num,by go_num,by omega,by omega,by omega,bw2,HR2⟩
      case measure=>simp [intOf];omega
     ·have e1:max (dd:Int) ((k1.depth:Int)+1)=(dd:Int):=by omega
      go_wp2
      go_roundw
      case rel=>exact ⟨j+1,dd,m1,by go_num,by go_num,by omega,by omega,by omega,bw2,HR2⟩
      case measure=>simp [intOf];omega
end zl4
end
section
open Go.RowKit
namespace zr8
set_option linter.unusedSimpArgs false in
set_option maxRecDepth 100000 in
set_option maxHeartbeats 1000000 in
theorem item_any (m:Int) (a:Option Addr) (cap:Nat) (L:List Pl.Nd) (w:World) (hl:L.length≤1048576) (hv:Mem.za2 w a L) (hok:∀n∈L,n.path.size≤1048576∧n.data.size≤1048576)
  (r1 r2 r3:TypeId) (x1 x2 x3:Value) (hE:zc2.Errs w r1 r2 r3 x1 x2 x3):
  Calls Tryz.prog 104 #[.agg #[.int .i64 m, .slice a L.length cap]] w fun e w'=>((Pl.zk m L=true∧∃B,e= .returned (.tuple #[.agg #[.map (some B), .int .i64 m], .nilIface])∧w.heap.size≤B∧Mem.ownM w' B L)∨
   (Pl.zk m L=false∧∃k,e= .returned (.tuple #[.agg #[.map none, .int .i64 k], .iface r1 x1])))∧Below w.heap.size w w':=by
 have b0:Below w.heap.size w ((w.alloc (.cells #[.int .i64 m, .slice a L.length cap] 53)).alloc (.cells #[.map none, .int .i64 0] 80)):=(bE0).alloc (by simp) _;have k1:=(hE.call b0).c1;have HB0:=hide b0;by_cases h1:m<0
 ·have hb:Pl.zk m L=false:=by unfold Pl.zk;rw [show decide (0≤m)=false from decide_eq_false (by omega)];simp
  clear b0 hv hok hE;go_enter Tryz.func104,Tryz.ntmps104
  go_wp2
  go_region
  go_wp2
  refine bodyPost_ret (v:= .tuple #[.agg #[.map none, .int .i64 0], .iface r1 x1]) (by simp [results,Tryz.results104,go_sem]) rfl ⟨.inr ⟨hb,0,rfl⟩,?_⟩;exact Mem.below_drewN (za HB0) 1
 by_cases h2:4<m
 ·have hb:Pl.zk m L=false:=by unfold Pl.zk;rw [show decide (m≤4)=false from decide_eq_false (by omega)];simp
  clear b0 hv hok hE;go_enter Tryz.func104,Tryz.ntmps104
  go_wp2
  go_region
  go_wp2
  refine bodyPost_ret (v:= .tuple #[.agg #[.map none, .int .i64 0], .iface r1 x1]) (by simp [results,Tryz.results104,go_sem]) rfl ⟨.inr ⟨hb,0,rfl⟩,?_⟩;exact Mem.below_drewN (za HB0) 1
 by_cases h3:0<m∧0<L.length
 ·have hb:Pl.zk m L=false:=by
   rw [Pl.yf5 (by omega),show decide (L.length=0)=false from decide_eq_false (by omega)];simp
  have u1:=h3.1;have u2:(0:Int)<(L.length:Int):=by omega
  clear b0 hv hok hE;go_enter Tryz.func104,Tryz.ntmps104
  go_wp2
  go_region
  go_wp2
  refine bodyPost_ret (v:= .tuple #[.agg #[.map none, .int .i64 0], .iface r1 x1]) (by simp [results,Tryz.results104,go_sem]) rfl ⟨.inr ⟨hb,0,rfl⟩,?_⟩;exact Mem.below_drewN (za HB0) 1
 have hb:Pl.zk m L=Pl.za5 L:=by
  by_cases h0:m=0
  ·subst h0;exact Pl.ym8 L
  ·have hL:L=[]:=List.eq_nil_of_length_eq_zero (by omega);subst hL;rw [Pl.yf5 h0,Pl.treeB_nil,decide_eq_true (show 1≤m by omega),decide_eq_true (show m≤4 by omega)];rfl
 rw [hb];have hz:=hide (zc2.zy1 a cap L _ hl (Mem.za0 hv b0) hok r1 r2 r3 x1 x2 x3 (hE.call b0))
 have r2':Mem.Blk ((w.alloc (.cells #[.int .i64 m, .slice a L.length cap] 53)).alloc (.cells #[.map none, .int .i64 0] 80)) (w.heap.size+1) #[.map none, .int .i64 0] 80:=by
  have :=Mem.Blk.new (w.alloc (.cells #[.int .i64 m, .slice a L.length cap] 53)) #[.map none, .int .i64 0] 80
  simpa using this
 have r1':Mem.Blk ((w.alloc (.cells #[.int .i64 m, .slice a L.length cap] 53)).alloc (.cells #[.map none, .int .i64 0] 80)) w.heap.size #[.int .i64 m, .slice a L.length cap] 53:=(Mem.Blk.new w _ _).alloc _;clear hv hok hE k1 b0 hb;by_cases h4:0<m
 ·have u2:¬ (0:Int)<(L.length:Int):=by omega
  go_enter Tryz.func104,Tryz.ntmps104
  go_wp2_with fail
  generalize ((w.alloc (.cells #[.int .i64 m, .slice a L.length cap] 53)).alloc (.cells #[.map none, .int .i64 0] 80))=w2 at hz r1' r2' HB0 ⊢;refine (za hz).mono ?_;rintro e w1 ⟨h1,b1⟩;have R1:=r1'.call b1;have R2:=r2'.call b1;obtain ⟨c10,c11⟩:=jc2 R1;obtain ⟨⟨c20,c21⟩,f20,f21⟩:=jf2 R2;have bb:=hide ((za HB0).trans (b1.mono (za HB0).size));have HS2:Hid (w.heap.size+2≤w2.heap.size):=hide (by have :=r2'.lt;omega);clear hz b1 r1' r2' R1 R2 HB0
  rcases h1 with ⟨hT,B,rfl,hB,hm⟩|⟨hT,rfl⟩
  ·have HM:Hid (w.heap.size≤B∧Mem.ownM ((w1.setCell ⟨w.heap.size+1,0,none⟩ (.map (some B))).setCell ⟨w.heap.size+1,1,none⟩ (.int .i64 m)) B L):=
    hide ⟨by have :=(za HS2);omega,(Mem.ownM.set (Mem.ownM.set hm _ _ (by have :=(za HS2);show B≠w.heap.size+1;omega)) _ _ (by have :=(za HS2);show B≠w.heap.size+1;omega))⟩
   clear hm hB;go_wp2
   refine bodyPost_ret (v:= .tuple #[.agg #[.map (some B), .int .i64 m], .nilIface]) (by simp [results,Tryz.results104,go_sem,c20,c21]) rfl ⟨.inl ⟨hT,B,rfl,za HM⟩,?_⟩;exact ((za bb).setCell (by show w.heap.size≤w.heap.size+1;omega) _).setCell (by show w.heap.size≤w.heap.size+1;omega) _
  ·go_wp2
   refine bodyPost_ret (v:= .tuple #[.agg #[.map none, .int .i64 m], .iface r1 x1]) (by simp [results,Tryz.results104,go_sem,c20,c21]) rfl ⟨.inr ⟨hT,m,rfl⟩,?_⟩;exact ((za bb).setCell (by show w.heap.size≤w.heap.size+1;omega) _).setCell (by show w.heap.size≤w.heap.size+1;omega) _
 ·go_enter Tryz.func104,Tryz.ntmps104
  go_wp2_with fail
  generalize ((w.alloc (.cells #[.int .i64 m, .slice a L.length cap] 53)).alloc (.cells #[.map none, .int .i64 0] 80))=w2 at hz r1' r2' HB0 ⊢;refine (za hz).mono ?_;rintro e w1 ⟨h1,b1⟩;have R1:=r1'.call b1;have R2:=r2'.call b1;obtain ⟨c10,c11⟩:=jc2 R1;obtain ⟨⟨c20,c21⟩,f20,f21⟩:=jf2 R2;have bb:=hide ((za HB0).trans (b1.mono (za HB0).size));have HS2:Hid (w.heap.size+2≤w2.heap.size):=hide (by have :=r2'.lt;omega);clear hz b1 r1' r2' R1 R2 HB0
  rcases h1 with ⟨hT,B,rfl,hB,hm⟩|⟨hT,rfl⟩
  ·have HM:Hid (w.heap.size≤B∧Mem.ownM ((w1.setCell ⟨w.heap.size+1,0,none⟩ (.map (some B))).setCell ⟨w.heap.size+1,1,none⟩ (.int .i64 m)) B L):=
    hide ⟨by have :=(za HS2);omega,(Mem.ownM.set (Mem.ownM.set hm _ _ (by have :=(za HS2);show B≠w.heap.size+1;omega)) _ _ (by have :=(za HS2);show B≠w.heap.size+1;omega))⟩
   clear hm hB;go_wp2
   refine bodyPost_ret (v:= .tuple #[.agg #[.map (some B), .int .i64 m], .nilIface]) (by simp [results,Tryz.results104,go_sem,c20,c21]) rfl ⟨.inl ⟨hT,B,rfl,za HM⟩,?_⟩;exact ((za bb).setCell (by show w.heap.size≤w.heap.size+1;omega) _).setCell (by show w.heap.size≤w.heap.size+1;omega) _
  ·go_wp2
   refine bodyPost_ret (v:= .tuple #[.agg #[.map none, .int .i64 m], .iface r1 x1]) (by simp [results,Tryz.results104,go_sem,c20,c21]) rfl ⟨.inr ⟨hT,m,rfl⟩,?_⟩;exact ((za bb).setCell (by show w.heap.size≤w.heap.size+1;omega) _).setCell (by show w.heap.size≤w.heap.size+1;omega) _
end zr8
end
section
open Go.RowKit
namespace zr8
theorem zn2:(Tryz.prog.info? 83).map (fun i=>(i.zero,i.size,i.bytes))=some (some (.agg #[.map none, .int .i64 0, .slice none 0 0]),3,40):=by kernel_rfl
structure Tk (w wr:World) (B X2 X7:Nat) (q:Nat) (L:List Pl.Nd) (m:Int) (v:Value) (F:Pl.Fx) (xs:List Value):Prop where
 bel:Below w.heap.size w wr
 big:B≤wr.heap.size
 x2:Mem.Blk wr X2 #[.map none, .int .i64 0, .slice none 0 0] 83
 x7:Mem.Blk wr X7 #[.map (some q), .int .i64 m,v] 83
 l2:w.heap.size≤X2∧X2<B
 l7:w.heap.size≤X7∧X7<B
 ne:X2≠X7
 row:wr.ownsRow B 83 3 v F.len xs
 cells:Mem.zo wr (fun b=>B≤b∧v.ownBlock≠some b) F xs
 lq:w.heap.size≤q∧q<B∧q≠X2∧q≠X7
 mq:Mem.ownM wr q L
 ord:(q::Mem.zo8 wr F xs).Pairwise (· < ·)
theorem zk9 {w w':World} {B n s:Nat} {T:TypeId} {v:Value} {xs:List Value} (h:w.ownsRow B T s v n xs) (b:Below w.heap.size w w'):w'.ownsRow B T s v n xs:=by
 refine ⟨h.1,?_⟩
 rcases h.2 with h0|⟨g,cap,cur,hv,hb,hg,rest⟩
 ·exact .inl h0
 ·exact .inr ⟨g,cap,cur,hv,hb,(b.block g (Array.getElem?_eq_some_iff.1 hg).1).trans hg,rest⟩
theorem zh {w:World} {B n s:Nat} {T:TypeId} {v:Value} {xs:List Value} (h:w.ownsRow B T s v n xs) (p:Addr) (u:Value) (hp:p.block<B):(w.setCell p u).ownsRow B T s v n xs:=by
 refine ⟨h.1,?_⟩
 rcases h.2 with h0|⟨g,cap,cur,hv,hb,hg,rest⟩
 ·exact .inl h0
 ·exact .inr ⟨g,cap,cur,hv,hb,(heap_setCell_other _ _ _ _ (by omega)).trans hg,rest⟩
theorem Tk.step {w wr w1 w4:World} {B X2 X7:Nat} {q q1:Nat} {L L1:List Pl.Nd} {m:Int} {v v1 v':Value} {F kids:Pl.Fx} {xs:List Value} {o1 o2:Obj} (h:Tk w wr B X2 X7 q L m v F xs)
  (b1:Below wr.heap.size wr w1) (hl:Mem.layX w1 (fun b=>wr.heap.size≤b) kids v1) (hq1:wr.heap.size≤q1) (hap:Mem.apart w1 q1 kids v1) (hm1:Mem.ownM w1 q1 L1)
  (own:w4.ownsRow B 83 3 v' (F.len+1) (xs++[.map (some q1), .int .i64 (kids.len:Int),v1])) (gr:((w1.alloc o1).alloc o2).grownBy w4 v.ownBlock) (far:∀g,v'.ownBlock=some g→v.ownBlock=some g∨((w1.alloc o1).alloc o2).heap.size≤g):
  Tk w (w4.setCell ⟨X7,2,none⟩ v') B X2 X7 q L m v' (F.app (.cons L1 kids .nil)) (xs++[.map (some q1), .int .i64 (kids.len:Int),v1]):=by
 have hw1:wr.heap.size≤w1.heap.size:=b1.size;have hs3:((w1.alloc o1).alloc o2).heap.size=w1.heap.size+1+1:=by simp
 have b3:Below wr.heap.size wr ((w1.alloc o1).alloc o2):=(b1.alloc hw1 o1).alloc (by simp;omega) o2;have b13:Below w1.heap.size w1 ((w1.alloc o1).alloc o2):=((Below.refl _ _).alloc (Nat.le_refl _) o1).alloc (by simp) o2;have e5:(w4.setCell ⟨X7,2,none⟩ v').heap.size=w4.heap.size:=by simp
 have hv7:some X7≠v.ownBlock:=fun e=>by have :=(h.row.lt X7 e.symm).1;have :=h.l7.2;omega
 have hv2:some X2≠v.ownBlock:=fun e=>by have :=(h.row.lt X2 e.symm).1;have :=h.l2.2;omega
 have hbig:=h.big
 have keep:∀b,B≤b→v.ownBlock≠some b→b<w1.heap.size→(w4.setCell ⟨X7,2,none⟩ v').heap[b]? =w1.heap[b]?:=fun b hb hne hlt=>by
  rw [heap_setCell_other _ _ _ _ (by show b≠X7;have :=h.l7.2;omega),gr.block b (by omega) (fun e=>hne e.symm)];exact b13.block b hlt
 have hsz:∀b,b<w1.heap.size→b<(w4.setCell ⟨X7,2,none⟩ v').heap.size:=fun b hb=>by have :=gr.size;omega
 have hnew:∀b,v.ownBlock≠some b→b<w1.heap.size→v'.ownBlock≠some b:=fun b hne hlt e=>by
  rcases far b e with h'|h'
  ·exact hne h'
  ·omega
 have hnw:∀b,wr.heap.size≤b→b<w1.heap.size→v.ownBlock≠some b:=fun b hb hlt e=>by have :=(h.row.lt b e).2;omega
 refine ⟨?_,?_,?_,?_,h.l2,h.l7,h.ne,?_,?_,h.lq,?_,?_⟩
 ·refine Below.setCell ?_ (by show w.heap.size≤X7;exact h.l7.1) _;have bw3:=h.bel.trans (b3.mono h.bel.size);refine ⟨gr.os.trans bw3.os,gr.tape.trans bw3.tape,gr.output.trans bw3.output,Nat.le_trans bw3.size gr.size,fun k hk=>?_⟩;have hk2:=h.bel.size;rw [gr.block k (by omega) (fun e=>by have :=(h.row.lt k e.symm).1;have :=h.l7;omega)];exact bw3.block k hk
 ·have :=gr.size;omega
 ·exact ((h.x2.call b3).grown gr hv2).far _ _ h.ne
 ·exact ((h.x7.call b3).grown gr hv7).put 2 v'
 ·rw [Pl.Fx.len_app];exact zh own _ _ h.l7.2
 ·refine Mem.cellsX_snoc ⟨by omega,hnew q1 (hnw q1 hq1 hm1.lt) hm1.lt⟩ (hm1.same (keep q1 (by omega) (hnw q1 hq1 hm1.lt) hm1.lt)) (Mem.zu7 (fun b hb hlt=>?_) hl) F xs (Mem.yj5 (fun b hb hlt=>?_) F xs h.cells)
  ·exact ⟨⟨by omega,hnew b (hnw b hb hlt) hlt⟩,hsz b hlt,keep b (by omega) (hnw b hb hlt) hlt⟩
  ·exact ⟨⟨hb.1,hnew b hb.2 (by omega)⟩,hsz b (by omega),(keep b hb.1 hb.2 (by omega)).trans (b1.block b hlt)⟩
 ·have hq:=h.mq.lt;refine h.mq.same ?_;rw [heap_setCell_other _ _ _ _ (show q≠X7 from h.lq.2.2.2),gr.block q (by omega) (fun e=>by have :=(h.row.lt q e.symm).1;have :=h.lq.2.1;omega)];exact b3.block q hq
 ·have c1:Mem.zo (w4.setCell ⟨X7,2,none⟩ v') (fun b=>B≤b) F xs:=Mem.yj5 (fun b hb hlt=>⟨hb.1,hsz b (by omega),(keep b hb.1 hb.2 (by omega)).trans (b1.block b hlt)⟩) F xs h.cells;have e1:Mem.zo8 (w4.setCell ⟨X7,2,none⟩ v') F xs=Mem.zo8 wr F xs:=Mem.mapsC_same (fun b hb hlt=>(keep b hb.1 hb.2 (by omega)).trans (b1.block b hlt)) F xs h.cells;have e2:Mem.zn0 (w4.setCell ⟨X7,2,none⟩ v') kids v1=Mem.zn0 w1 kids v1:=Mem.zs6 (fun b hb hlt=>keep b (by omega) (hnw b hb hlt) hlt) hl;rw [Mem.mapsC_snoc L1 kids q1 _ v1 F xs c1,e1,e2,←List.cons_append,List.pairwise_append];refine ⟨h.ord,hap,fun x hx y hy=>?_⟩
  have hxl:x<wr.heap.size:=by
   rcases List.mem_cons.1 hx with rfl |hx
   ·exact h.mq.lt
   ·exact (Mem.mapsC_in F xs h.cells x hx).2
  have hyl:wr.heap.size≤y:=by
   rcases List.mem_cons.1 hy with rfl |hy
   ·exact hq1
   ·exact (Mem.mapsL_in hl y hy).1
  omega
theorem Tk.mid {w wr w1 w4:World} {B X2 X7:Nat} {q:Nat} {L:List Pl.Nd} {m:Int} {v:Value} {F:Pl.Fx} {xs:List Value} {o1 o2:Obj} (h:Tk w wr B X2 X7 q L m v F xs)
  (b1:Below wr.heap.size wr w1) (gr:((w1.alloc o1).alloc o2).grownBy w4 v.ownBlock):Mem.Blk w4 X7 #[.map (some q), .int .i64 m,v] 83:=
 (((h.x7.call b1).alloc o1).alloc o2).grown gr (fun e=>by have :=(h.row.lt X7 e.symm).1;have :=h.l7.2;omega)
theorem Tk.conc {w wr:World} {B X2 X7:Nat} {q:Nat} {L:List Pl.Nd} {m:Int} {v:Value} {F:Pl.Fx} {xs:List Value} (h:Tk w wr B X2 X7 q L m v F xs):∃a cap,v= .slice a F.len cap:=by
 rcases h.row.2 with ⟨h1,h0⟩|⟨g,cap,cur,h1,_⟩
 ·exact ⟨none,0,by rw [h1,h0]⟩
 ·exact ⟨_,cap,h1⟩
theorem conc {w:World} {B n s:Nat} {T:TypeId} {v:Value} {xs:List Value} (h:w.ownsRow B T s v n xs):∃a cap,v= .slice a n cap:=by
 rcases h.2 with ⟨h1,h0⟩|⟨g,cap,cur,h1,_⟩
 ·exact ⟨none,0,by rw [h1,h0]⟩
 ·exact ⟨_,cap,h1⟩
theorem three_new (w:World) (cs:List Value) (T:TypeId) (o:Obj):∀j u,cs[j]? =some u→((w.alloc o).alloc (.cells cs.toArray T)).cell? ((⟨w.heap.size+1,0,none⟩:Addr).add j)=some u:=by
 intro j u hj;rw [Mem.add_lit];have :=(Mem.zi0 (w.alloc o) cs T).2 j u hj
 simpa using this
theorem Tk.done {w wr:World} {B X2 X7:Nat} {q:Nat} {L:List Pl.Nd} {m:Int} {v:Value} {F:Pl.Fx} {xs:List Value} (h:Tk w wr B X2 X7 q L m v F xs) (u0 u1 u2:Value):
  Mem.layX (((wr.setCell ⟨X2,0,none⟩ u0).setCell ⟨X2,1,none⟩ u1).setCell ⟨X2,2,none⟩ u2) (fun b=>w.heap.size≤b) F v:=by
 refine Mem.zu7 (fun b hb hlt=>⟨?_,by simpa using hlt,?_⟩) (Mem.yk5 h.row h.cells (fun b hb=>hb.1))
 ·have :=h.l2;omega
 ·have :=h.l2.2;rw [heap_setCell_other _ _ _ _ (by show b≠X2;omega),heap_setCell_other _ _ _ _ (by show b≠X2;omega),heap_setCell_other _ _ _ _ (by show b≠X2;omega)]
theorem Tk.own {w wr:World} {B X2 X7:Nat} {q:Nat} {L:List Pl.Nd} {m:Int} {v:Value} {F:Pl.Fx} {xs:List Value} (h:Tk w wr B X2 X7 q L m v F xs) (u0 u1 u2:Value):
  Mem.ownM (((wr.setCell ⟨X2,0,none⟩ u0).setCell ⟨X2,1,none⟩ u1).setCell ⟨X2,2,none⟩ u2) q L:=
 ((h.mq.set _ _ h.lq.2.2.1).set _ _ h.lq.2.2.1).set _ _ h.lq.2.2.1
theorem Tk.apart {w wr:World} {B X2 X7:Nat} {q:Nat} {L:List Pl.Nd} {m:Int} {v:Value} {F:Pl.Fx} {xs:List Value} (h:Tk w wr B X2 X7 q L m v F xs) (u0 u1 u2:Value):
  Mem.apart (((wr.setCell ⟨X2,0,none⟩ u0).setCell ⟨X2,1,none⟩ u1).setCell ⟨X2,2,none⟩ u2) q F v:=by
 have e:Mem.zn0 (((wr.setCell ⟨X2,0,none⟩ u0).setCell ⟨X2,1,none⟩ u1).setCell ⟨X2,2,none⟩ u2) F v=Mem.zn0 wr F v:=Mem.zs6 (fun b hb hlt=>by
  have :=h.l2.2
  rw [heap_setCell_other _ _ _ _ (by show b≠X2;omega),heap_setCell_other _ _ _ _ (by show b≠X2;omega),heap_setCell_other _ _ _ _ (by show b≠X2;omega)]) (Mem.yk5 h.row h.cells (fun b hb=>hb.1))
 show (q::_).Pairwise _;rw [e,Mem.mapsL_of_row h.row h.cells];exact h.ord
end zr8
end
section
open Go.RowKit
namespace zr8
theorem take_here {Is:List Pl.It} {x:Pl.It} (hx:Is[0]? =some x):Pl.rowO (Is.map Pl.It.r)=Pl.zr1 (x.m,x.t.L)::Pl.rowO ((Is.drop 1).map Pl.It.r):=by
 have h:=Pl.rowO_at (xs:=Is.map Pl.It.r) (i:=0) (x:=x.r) (by rw [List.getElem?_map,hx];rfl);rw [List.drop_zero,Pl.rowO_drop,←List.map_drop] at h;exact h
theorem items_here {Is:List Pl.It} {x:Pl.It} (hx:Is[0]? =some x):Is.map Pl.It.r=(x.m,x.t.L)::(Is.drop 1).map Pl.It.r:=by
 cases Is with
 |nil=>cases hx
 |cons y Is=>
  have e:y=x:=by simpa using hx
  subst e;rfl
theorem item_tree {m:Int} {L:List Pl.Nd} (h:Pl.zk m L=true):Pl.za5 L=true∧(m=0∨L=[]):=by
 unfold Pl.zk at h;simp only [Bool.and_eq_true,Bool.or_eq_true,decide_eq_true_eq,List.isEmpty_iff] at h;exact ⟨h.2,h.1.2⟩
def Took (w:World) (r1:TypeId) (x1:Value) (a:Option Addr) (Is:List Pl.It) (TT:Option (Pl.Fo × Pl.Row)) (e:Ending) (w':World):Prop:=
 (∃L kids q v k a' cap',TT=some (.cons kids.shape .nil,Pl.rowO ((Is.drop k).map Pl.It.r))∧e= .returned (.tuple #[.agg #[.map (some q), .int .i64 (kids.len:Int),v], .slice a' (Is.drop k).length cap', .nilIface])∧
  0<k∧k≤Is.length∧(Is.drop k).length≤cap'∧Mem.shifted a a' k Is∧((w.heap.size≤q∧Mem.apart w' q kids v)∧Mem.ownM w' q L)∧((Pl.Fx.cons L kids .nil).okX∧(Pl.Fx.cons L kids .nil).flat++(Is.drop k).map Pl.It.r=Is.map Pl.It.r)∧Mem.layX w' (fun b=>w.heap.size≤b) kids v)∨
 (TT=none∧e= .returned (.tuple #[.agg #[.map none, .int .i64 0, .slice none 0 0], .slice none 0 0, .iface r1 x1]))
set_option linter.unusedSimpArgs false in
set_option maxRecDepth 100000 in
set_option maxHeartbeats 2000000 in
theorem take_any (r1 r2 r3:TypeId) (x1 x2 x3:Value) (n:Nat):
  ∀ (Is:List Pl.It) (a:Option Addr) (cap:Nat) (w:World),Is.length≤n→Is.length≤12→Is.length≤cap→Mem.zb0 w a Is→(∀x∈Is,x.t.L.length≤1048576∧∀n∈x.t.L,n.path.size≤1048576∧n.data.size≤1048576)→zc2.Errs w r1 r2 r3 x1 x2 x3→
  Calls Tryz.prog 75 #[.slice a Is.length cap] w fun e w'=>Took w r1 x1 a Is (Pl.take 1 (Pl.rowO (Is.map Pl.It.r))) e w'∧Below w.heap.size w w':=by
 obtain ⟨i0,hi,hz0,hz1,hz2⟩:=info_parts zn2
 induction n with
 |zero=>
  intro Is a cap w hn h12 hcap hv hok hE;have e:Is=[]:=List.eq_nil_of_length_eq_zero (by omega);subst e;have b0:Below w.heap.size w (w.alloc (.cells #[.map none, .int .i64 0, .slice none 0 0] 83)):=bE0;have k1:=(hE.call b0).c1;have HB0:=hide b0;clear hv hok hE b0;go_enter Tryz.func75,Tryz.ntmps75
  go_wp2
  go_region
  go_wp2
  refine bodyPost_ret (v:= .tuple #[.agg #[.map none, .int .i64 0, .slice none 0 0], .slice none 0 0, .iface r1 x1]) (by simp [results,Tryz.results75,go_sem]) rfl ⟨Or.inr ⟨rfl,rfl⟩,?_⟩;exact Mem.below_drewN (za HB0) 1
 |succ n ih=>
  intro Is a cap w hn h12 hcap hv hok hE;have b0:Below w.heap.size w (w.alloc (.cells #[.map none, .int .i64 0, .slice none 0 0] 83)):=bE0;have A0:=Mem.Blk.new w #[.map none, .int .i64 0, .slice none 0 0] 83;have hs0:(w.alloc (.cells #[.map none, .int .i64 0, .slice none 0 0] 83)).heap.size=w.heap.size+1:=by simp
  by_cases hnil:Is.length=0
  ·have e:Is=[]:=List.eq_nil_of_length_eq_zero hnil;subst e;have k1:=(hE.call b0).c1;have HB0:=hide b0;clear hv hok hE b0 A0 ih;go_enter Tryz.func75,Tryz.ntmps75
   go_wp2
   go_region
   go_wp2
   refine bodyPost_ret (v:= .tuple #[.agg #[.map none, .int .i64 0, .slice none 0 0], .slice none 0 0, .iface r1 x1]) (by simp [results,Tryz.results75,go_sem]) rfl ⟨Or.inr ⟨rfl,rfl⟩,?_⟩;exact Mem.below_drewN (za HB0) 1
  have t0:¬ (Is.length:Int)=0:=by omega
  have t1:(0:Int)<(Is.length:Int):=by omega
  have t2:(1:Int)≤(Is.length:Int):=by omega
  obtain ⟨x,hx⟩:∃x,Is[0]? =some x:=⟨_,List.getElem?_eq_getElem (by omega)⟩;obtain ⟨⟨b,o,rfl,hb,q0,q0'⟩,q1⟩:=hv 0 x hx;have c0:=(b0.cell (p:=⟨b,_,none⟩) hb).trans q0;have c1:=(b0.cell (p:=⟨b,_,none⟩) hb).trans q0';simp only [Pl.Tr.val,Nat.zero_mul,Nat.add_zero] at c0 c1;have hz:=hide (item_any x.m x.t.a x.t.cap x.t.L _ (hok x (List.mem_of_getElem? hx)).1 (Mem.za0 q1 b0) (hok x (List.mem_of_getElem? hx)).2 r1 r2 r3 x1 x2 x3 (hE.call b0));have hrow:=take_here hx;have HIS:Hid (Is.map Pl.It.r=(x.m,x.t.L)::(Is.drop 1).map Pl.It.r):=hide (items_here hx)
  have HI:Hid (∀ (k r:Nat) (a':Option Addr) (cap':Nat) (W:World),0<k→k+r=Is.length→r≤cap'→Mem.shifted (some ⟨b,o,none⟩) a' k Is→Below w.heap.size w W→
    Calls Tryz.prog 75 #[.slice a' r cap'] W fun e w'=>((∃L kids q v k1 r1 a1 cap1,Pl.take 1 (Pl.rowO ((Is.drop k).map Pl.It.r))=some (.cons kids.shape .nil,Pl.rowO ((Is.drop (k+k1)).map Pl.It.r))∧e= .returned (.tuple #[.agg #[.map (some q), .int .i64 (kids.len:Int),v], .slice a1 r1 cap1, .nilIface])∧
     k+k1+r1=Is.length∧r1≤cap1∧Mem.shifted (some ⟨b,o,none⟩) a1 (k+k1) Is∧((W.heap.size≤q∧Mem.apart w' q kids v)∧Mem.ownM w' q L)∧((Pl.Fx.cons L kids .nil).okX∧(Pl.Fx.cons L kids .nil).flat++(Is.drop (k+k1)).map Pl.It.r=(Is.drop k).map Pl.It.r)∧Mem.layX w' (fun b=>W.heap.size≤b) kids v)∨
    (Pl.take 1 (Pl.rowO ((Is.drop k).map Pl.It.r))=none∧e= .returned (.tuple #[.agg #[.map none, .int .i64 0, .slice none 0 0], .slice none 0 0, .iface r1 x1])))∧Below W.heap.size W w'):=hide (fun k r a' cap' W hk hr hc hs bb=>by
   have hrl:(Is.drop k).length=r:=by rw [List.length_drop];omega
   have h:=ih (Is.drop k) a' cap' W (by omega) (by omega) (by omega) (Mem.zb2 (Mem.items_shift hv hs) bb) (fun y hy=>hok y (List.mem_of_mem_drop hy)) (hE.call bb);rw [hrl] at h;refine h.mono fun e w' ⟨h1,h2⟩=>⟨?_,h2⟩
   rcases h1 with ⟨L,kids,q,v,k1,a1,cap1,g1,g2,g3,g4,g5,g6,g8,g9,g7⟩|h1
   ·rw [List.drop_drop] at g1 g2 g5 g9;exact .inl ⟨L,kids,q,v,k1,(Is.drop (k+k1)).length,a1,cap1,g1,g2,by rw [List.length_drop];omega,g5,Mem.shifted_trans hs g6,g8,g9,g7⟩
   ·exact .inr h1)
  rw [hrow];generalize hTT:Pl.take 1 (Pl.zr1 (x.m,x.t.L)::Pl.rowO ((Is.drop 1).map Pl.It.r))=TT;have HTT:=hide hTT;clear hTT;clear ih hv hok hE q0 q0' q1 hx hrow;go_enter Tryz.func75,Tryz.ntmps75
  go_wp2_with fail
  generalize w.alloc (.cells #[.map none, .int .i64 0, .slice none 0 0] 83)=w2 at hz A0 b0 hs0 c0 c1 ⊢;refine (za hz).mono ?_;rintro e w1 ⟨h1,b1⟩;have bw1:=b0.trans (b1.mono b0.size);have A1:=A0.call b1;have hs1:=b1.size;clear hz c0 c1 b1 A0 b0
  rcases h1 with ⟨hT,B,rfl,hBw,hBm⟩|⟨hT,k,rfl⟩
  ·obtain ⟨hm0,hm4⟩:=Pl.yd5 hT;have HTB:=hide (item_tree hT);rw [Pl.itemO_yes hT,Pl.yf9] at HTT;obtain ⟨mm,hmm⟩:∃mm:Nat,x.m=(mm:Int):=⟨x.m.toNat,by omega⟩;rw [hmm,Int.toNat_natCast] at HTT;rw [hmm] at HIS HTB ⊢;have hm5:mm≤4:=by omega
   have hBl:=hBm.lt;clear hT hmm hm0 hm4;have bA:Below w.heap.size w ((w1.alloc (.cells #[.map (some B), .int .i64 (mm:Int)] 80)).alloc (.cells #[.map (some B), .int .i64 (mm:Int), .slice none 0 0] 83)):=(bw1.alloc bw1.size _).alloc (by simp;have :=bw1.size;omega) _
   have TK0:Hid (Tk w ((w1.alloc (.cells #[.map (some B), .int .i64 (mm:Int)] 80)).alloc (.cells #[.map (some B), .int .i64 (mm:Int), .slice none 0 0] 83)) (w1.heap.size+1+1) w.heap.size (w1.heap.size+1) B x.t.L (mm:Int) (.slice none 0 0) .nil []):=
    hide ⟨bA,by simp,(A1.alloc _).alloc _,by have :=Mem.Blk.new (w1.alloc (.cells #[.map (some B), .int .i64 (mm:Int)] 80)) #[.map (some B), .int .i64 (mm:Int), .slice none 0 0] 83;simpa using this,⟨Nat.le_refl _,by omega⟩,⟨by omega,by omega⟩,by omega,World.ownsRow_nil _ _ _ _,rfl,⟨by omega,by omega,by omega,by omega⟩,(hBm.call (bE0)).call (bE0),List.pairwise_singleton _ _⟩
   generalize hT0:Pl.take mm (Pl.rowO ((Is.drop 1).map Pl.It.r))=T0 at HTT;have HT0:Hid (Pl.went Pl.Fx.nil.shape (Pl.take (mm - Pl.Fx.nil.len) (Pl.rowO ((Is.drop 1).map Pl.It.r)))=T0):=hide (by show Pl.went .nil (Pl.take (mm - Pl.Fo.nil.len) _)=_;rw [Pl.went_start];exact hT0);have HF0:Hid (Pl.Fx.nil.okX∧Pl.Fx.nil.flat++(Is.drop 1).map Pl.It.r=(Is.drop 1).map Pl.It.r):=⟨trivial,rfl⟩;have S0:Hid (cap=1→Mem.shifted (some ⟨b,o,none⟩) (some ⟨b,o,none⟩) 1 Is):=hide (fun hc=> .inl (List.drop_eq_nil_of_le (by omega)));have S1:Hid (Mem.shifted (some ⟨b,o,none⟩) (some ⟨b,o+2,none⟩) 1 Is):=hide (.inr ⟨b,o,rfl,rfl⟩);clear hT0 A1 bw1 bA;go_wp2
   all_goals
    go_loopw [8,34] (fun rest i wr=>∃ (k:Nat) (a':Option Addr) (cap':Nat) (v:Value) (F:Pl.Fx) (xs:List Value) (r:Nat),rest= .slice a' r cap'∧i= .int .i64 (F.len:Int)∧F.len≤mm∧0<k∧k+r=Is.length∧r≤cap'∧Hid (Mem.shifted (some ⟨b,o,none⟩) a' k Is)∧Hid (Tk w wr (w1.heap.size+1+1) w.heap.size (w1.heap.size+1) B x.t.L (mm:Int) v F xs)∧Hid (F.okX∧F.flat++(Is.drop k).map Pl.It.r=(Is.drop 1).map Pl.It.r)∧Hid (Pl.went F.shape (Pl.take (mm - F.len) (Pl.rowO ((Is.drop k).map Pl.It.r)))=T0)) (fun _ i _=>mm - (intOf i).toNat)
    case atStart=>
     refine ⟨1,_,_,_, .nil,[],_,rfl,rfl,Nat.zero_le _,by omega,by omega,by omega,?_,TK0,HF0,HT0⟩
     first |exact S1|exact hide (za S0 (by omega))
    case round=>
     obtain ⟨k,a',cap',v,F,xs,r,rfl,rfl,hFm,hk,hkl,hc,HS,TK,HF,HT⟩:=hrel;clear TK0 HT0 HF0 S0 S1;by_cases hlt:F.len<mm
     ·have u1:(F.len:Int)<(mm:Int):=by omega
      have hcall:=hide (za HI k r a' cap' wr hk hkl hc (za HS) (za TK).bel);go_wp2_with fail
      refine (za hcall).mono ?_;rintro e wX ⟨h1,bX⟩;clear hcall
      rcases h1 with ⟨L1,kids,q1,v1,k1,s1,a1,cap1,ht,rfl,hk1',hc1,hs1',⟨⟨hq1,hap1⟩,hm1⟩,hfl,hlay⟩|⟨ht,rfl⟩
      ·obtain ⟨va,vcap,rfl,hrest⟩:=hlay;have HST:=hide (fun (w4:World) (v':Value) own gr far=>(za TK).step (w1:=wX) (w4:=w4) (kids:=kids) (v1:= .slice va kids.len vcap) (q1:=q1) (L1:=L1) (v':=v') (o1:= .cells #[.map (some q1), .int .i64 (kids.len:Int), .slice va kids.len vcap] 83) (o2:= .cells #[.map (some q1), .int .i64 (kids.len:Int), .slice va kids.len vcap] 83) bX ⟨va,vcap,rfl,hrest⟩ hq1 hap1 hm1 own gr far);have HMD:=hide (fun (w4:World) gr=>(za TK).mid (w1:=wX) (w4:=w4) (o1:= .cells #[.map (some q1), .int .i64 (kids.len:Int), .slice va kids.len vcap] 83) (o2:= .cells #[.map (some q1), .int .i64 (kids.len:Int), .slice va kids.len vcap] 83) bX gr)
       have HR:=hide (((zk9 (za TK).row bX).alloc (.cells #[.map (some q1), .int .i64 (kids.len:Int), .slice va kids.len vcap] 83)).alloc (.cells #[.map (some q1), .int .i64 (kids.len:Int), .slice va kids.len vcap] 83));have X7a:=((za TK).x7.call bX).alloc (.cells #[.map (some q1), .int .i64 (kids.len:Int), .slice va kids.len vcap] 83);have c72:=X7a.cell 2;simp only [kGs] at c72;have hbig:w1.heap.size+1+1≤wX.heap.size:=Nat.le_trans (za TK).big bX.size;have HS2:Hid (Mem.shifted (some ⟨b,o,none⟩) a1 (k+k1) Is):=hide hs1';obtain ⟨j,hj⟩:∃j,mm - F.len=j+1:=⟨mm - F.len - 1,by omega⟩
       have HT2:Hid (Pl.went (F.app (.cons L1 kids .nil)).shape (Pl.take (mm - (F.app (.cons L1 kids .nil)).len) (Pl.rowO ((Is.drop (k+k1)).map Pl.It.r)))=T0):=hide (by
        have h':=za HT;rw [hj,Pl.went_step ht] at h';rw [Pl.Fx.len_app,Pl.Fx.shape_app,←h']
        congr 2
        simp only [Pl.Fx.len]
        omega)
       have HF2:Hid ((F.app (.cons L1 kids .nil)).okX∧(F.app (.cons L1 kids .nil)).flat++(Is.drop (k+k1)).map Pl.It.r=(Is.drop 1).map Pl.It.r):=hide ⟨Pl.Fx.ok_app (za HF).1 hfl.1,by rw [Pl.Fx.flat_app,List.append_assoc,hfl.2];exact (za HF).2⟩;have hlen:(F.app (.cons L1 kids .nil)).len=F.len+1:=by rw [Pl.Fx.len_app];rfl
       have HLEN:=hide hlen;clear TK HS HT HF hfl hq1 hap1 hm1 ht bX hs1' hrest X7a hlen;go_wp2_with (at_builtin;refine Mem.ze1 _ rfl _ _ 81 rfl (w1.heap.size+1+1) 83 i0 (.agg #[.map none, .int .i64 0, .slice none 0 0]) 3 40 Tryz.underlying81 hi hz0 hz1 hz2 rfl (by decide) _ _ _ rfl (za HR) ⟨wX.heap.size+1,0,none⟩ 1 1 [.map (some q1), .int .i64 (kids.len:Int), .slice va kids.len vcap] rfl rfl (three_new _ _ _ _) (fun u hu=>by simp at hu;rcases hu with rfl |rfl |rfl <;> rfl) (by unfold maxLen;omega) (by omega) (by simp;omega) ?_)
       intro v' w4 own' hgrow hfar;have M7:=za HMD w4 hgrow;have c74:=M7.cell 2;have f74:=M7.fr 2;simp only [kGs] at c74;have TK2:=hide (za HST w4 v' own' hgrow (by simpa using hfar));obtain ⟨vb,vc,rfl⟩:=conc own';clear own' hgrow hfar M7 HMD HST HR c72;go_wp2
       go_roundw
       case rel=>exact ⟨k+k1,a1,cap1,_,_,_,s1,rfl,by rw [za HLEN];go_num,by rw [za HLEN];omega,by omega,hk1',hc1,HS2,TK2,HF2,HT2⟩
       case measure=>simp [intOf];omega
      ·obtain ⟨j,hj⟩:∃j,mm - F.len=j+1:=⟨mm - F.len - 1,by omega⟩
       have hno:TT=none:=by
        have h':=za HT;rw [hj,Pl.went_fail ht] at h';rw [←za HTT,←h'];rfl
       have X2a:=((za TK).x2.call bX).alloc (.cells #[.map none, .int .i64 0, .slice none 0 0] 83);obtain ⟨⟨c20,c21,c22⟩,f20,f21,f22⟩:=jf3 X2a
       have bb:Hid (Below w.heap.size w (wX.alloc (.cells #[.map none, .int .i64 0, .slice none 0 0] 83))):=hide (by
        have b':=(za TK).bel.trans (bX.mono (za TK).bel.size)
        exact b'.alloc b'.size _)
       clear TK HS HT ht bX X2a;go_wp2
       refine bodyPost_ret (v:= .tuple #[.agg #[.map none, .int .i64 0, .slice none 0 0], .slice none 0 0, .iface r1 x1]) (by simp [results,Tryz.results75,go_sem,c20,c21,c22]) rfl ⟨Or.inr ⟨hno,rfl⟩,?_⟩
       first |exact za bb|exact (((za bb).setCell (Nat.le_refl _) _).setCell (Nat.le_refl _) _).setCell (Nat.le_refl _) _
     ·have u1:¬ (F.len:Int)<(mm:Int):=by omega
      have hyes:Hid (TT=some (.cons F.shape .nil,Pl.rowO ((Is.drop k).map Pl.It.r))):=hide <| by
       have h':=za HT;rw [show mm - F.len=0 by omega,Pl.went_end] at h';rw [←za HTT,←h'];rfl
      have hFe:F.len=mm:=by omega
      have HFI:Hid ((Pl.Fx.cons x.t.L F .nil).okX∧(Pl.Fx.cons x.t.L F .nil).flat++(Is.drop k).map Pl.It.r=Is.map Pl.It.r):=hide ⟨⟨(za HTB).1,(za HTB).2.imp (fun h=>Pl.Fx.yg5 (by omega)) id,by omega,(za HF).1,trivial⟩,by rw [za HIS,←(za HF).2,Pl.Fx.flat,hFe];simp [Pl.Fx.flat]⟩;have HQ:=hide (za TK).lq.1;have HFE:=hide hFe;clear hFe;obtain ⟨va,vcap,rfl⟩:=(za TK).conc;have X2a:=(za TK).x2;have X7a:=(za TK).x7;obtain ⟨⟨c20,c21,c22⟩,f20,f21,f22⟩:=jf3 X2a;obtain ⟨c70,c71,c72⟩:=jc3 X7a;clear X2a X7a HT;go_wp2
      have hrl:(Is.drop k).length=r:=by rw [List.length_drop];omega
      refine bodyPost_ret (v:= .tuple #[.agg #[.map (some B), .int .i64 (mm:Int), .slice va F.len vcap], .slice a' r cap', .nilIface]) (by simp [results,Tryz.results75,go_sem,c20,c21,c22]) rfl ⟨Or.inl ⟨_,F,B,_,k,a',cap',za hyes,by rw [hrl,za HFE],hk,by omega,by rw [hrl];exact hc,za HS,⟨⟨za HQ,(za TK).apart _ _ _⟩,(za TK).own _ _ _⟩,za HFI,(za TK).done _ _ _⟩,?_⟩;exact (((za TK).bel.setCell (Nat.le_refl _) _).setCell (Nat.le_refl _) _).setCell (Nat.le_refl _) _
  ·rw [Pl.itemO_no hT] at HTT;have hno:TT=none:=(za HTT).symm;have A2:=A1.alloc (.cells #[.map none, .int .i64 k] 80);obtain ⟨⟨c20,c21,c22⟩,f20,f21,f22⟩:=jf3 A2;have bb:=hide (bw1.alloc bw1.size (.cells #[.map none, .int .i64 k] 80));clear A1 A2 hT HI bw1;go_wp2
   refine bodyPost_ret (v:= .tuple #[.agg #[.map none, .int .i64 0, .slice none 0 0], .slice none 0 0, .iface r1 x1]) (by simp [results,Tryz.results75,go_sem,c20,c21,c22]) rfl ⟨Or.inr ⟨hno,rfl⟩,?_⟩
   first |exact za bb|exact (((za bb).setCell (Nat.le_refl _) _).setCell (Nat.le_refl _) _).setCell (Nat.le_refl _) _
end zr8
end
section
open Go.RowKit
namespace zl4
structure Errs4 (w:World) (u0 u1 u2 u3:TypeId) (x0 x1 x2 x3:Value):Prop where
 c0:w.cell? ⟨0,0,none⟩=some (.iface u0 x0)
 three:zc2.Errs w u1 u2 u3 x1 x2 x3
theorem Errs4.call {w w':World} {u0 u1 u2 u3:TypeId} {x0 x1 x2 x3:Value} (h:Errs4 w u0 u1 u2 u3 x0 x1 x2 x3) (b:Below w.heap.size w w'):Errs4 w' u0 u1 u2 u3 x0 x1 x2 x3:=
 ⟨(b.cell (p:=⟨_,0,none⟩) (World.block_lt_of_cell? w ⟨_,0,none⟩ h.c0)).trans h.c0,h.three.call b⟩
end zl4
end
section
open Go.RowKit
namespace zr8
def Nested (w:World) (r0 r1:TypeId) (x0 x1:Value) (Is:List Pl.It) (NN:Option Pl.Fo) (e:Ending) (w':World):Prop:=
 (∃L k q a cap,NN=some k.shape∧e= .returned (.tuple #[.agg #[.map (some q), .int .i64 (k.len:Int), .slice a k.len cap], .nilIface])∧((w.heap.size≤q∧Mem.apart w' q k (.slice a k.len cap))∧Mem.ownM w' q L)∧((Pl.Fx.cons L k .nil).okX∧(Pl.Fx.cons L k .nil).flat=Is.map Pl.It.r)∧Mem.layX w' (fun b=>w.heap.size≤b) k (.slice a k.len cap))∨
 (NN=none∧∃r x,e= .returned (.tuple #[.agg #[.map none, .int .i64 0, .slice none 0 0], .iface r x])∧((400<Is.length∧r=r0∧x=x0)∨(Is.length≤400∧r=r1∧x=x1)))
set_option linter.unusedSimpArgs false in
set_option maxRecDepth 100000 in
set_option maxHeartbeats 1000000 in
theorem nest_any (a:Option Addr) (cap:Nat) (Is:List Pl.It) (w:World) (hl:Is.length≤1048576) (hcap:Is.length≤cap) (hv:Mem.zb0 w a Is) (hok:∀x∈Is,x.t.L.length≤1048576∧∀n∈x.t.L,n.path.size≤1048576∧n.data.size≤1048576)
  (r0 r1 r2 r3:TypeId) (x0 x1 x2 x3:Value) (hE:zl4.Errs4 w r0 r1 r2 r3 x0 x1 x2 x3):
  Calls Tryz.prog 42 #[.slice a Is.length cap] w fun e w'=>Nested w r0 r1 x0 x1 Is (Pl.nest (Pl.rowO (Is.map Pl.It.r))) e w'∧Below w.heap.size w w':=by
 have hrl:(Pl.rowO (Is.map Pl.It.r)).length=Is.length:=by rw [Pl.zw0,List.length_map]
 have b0:Below w.heap.size w (w.alloc (.cells #[.map none, .int .i64 0, .slice none 0 0] 83)):=bE0;have A0:=Mem.Blk.new w #[.map none, .int .i64 0, .slice none 0 0] 83;have k0:=(hE.call b0).c0;have k1:=(hE.call b0).three.c1;by_cases h400:400<Is.length
 ·have t0:(400:Int)<(Is.length:Int):=by omega
  rw [Pl.yj _ (by omega)];have HB0:=hide b0;clear hv hok hE b0 A0 hrl;go_enter Tryz.func42,Tryz.ntmps42
  go_wp2
  go_region
  go_wp2
  refine bodyPost_ret (v:= .tuple #[.agg #[.map none, .int .i64 0, .slice none 0 0], .iface r0 x0]) (by simp [results,Tryz.results42,go_sem]) rfl ⟨Or.inr ⟨rfl,_,_,rfl, .inl ⟨h400,rfl,rfl⟩⟩,?_⟩;exact Mem.below_drewN (za HB0) 1
 have t0:¬ (400:Int)<(Is.length:Int):=by omega
 by_cases h12:12<Is.length
 ·have t1:(12:Int)<(Is.length:Int):=by omega
  rw [Pl.yj _ (by omega)];have HB0:=hide b0;clear hv hok hE b0 A0 hrl;go_enter Tryz.func42,Tryz.ntmps42
  go_wp2
  go_region
  go_wp2
  refine bodyPost_ret (v:= .tuple #[.agg #[.map none, .int .i64 0, .slice none 0 0], .iface r1 x1]) (by simp [results,Tryz.results42,go_sem]) rfl ⟨Or.inr ⟨rfl,_,_,rfl, .inr ⟨by omega,rfl,rfl⟩⟩,?_⟩;exact Mem.below_drewN (za HB0) 1
 have t1:¬ (12:Int)<(Is.length:Int):=by omega
 have hz:=hide (take_any r1 r2 r3 x1 x2 x3 12 Is a cap _ (by omega) (by omega) hcap (Mem.zb2 hv b0) hok (hE.call b0).three);have n1:1<w.heap.size:=World.block_lt_of_cell? w ⟨_,0,none⟩ hE.three.c1;have n2:¬w.heap.size=1:=by omega
 have n3:¬1=w.heap.size:=by omega
 have HE:=hide (fun W (b:Below w.heap.size w W)=>(hE.call b).three.c1);have HRL:=hide hrl;generalize Pl.rowO (Is.map Pl.It.r)=LL at hz HRL ⊢;generalize hNN:Pl.nest LL=NN;have HNN:=hide hNN;clear hv hok hE k0 k1 hrl hNN;go_enter Tryz.func42,Tryz.ntmps42
 go_wp2_with fail
 generalize w.alloc (.cells #[.map none, .int .i64 0, .slice none 0 0] 83)=w2 at b0 A0 hz ⊢;refine (za hz).mono ?_;rintro e w1 ⟨h1,b1⟩;have bw1:=b0.trans (b1.mono b0.size);have A1:=A0.call b1;have HWW:Hid (w.heap.size<w2.heap.size):=hide A0.lt;clear hz b1 A0 b0
 rcases h1 with ⟨L,kids,q,v,k,a',cap',ht,rfl,hk,hkl,hc, -,⟨⟨hqw,hap⟩,hqm⟩,hfl,hlay⟩|⟨ht,rfl⟩
 ·obtain ⟨va,vcap,rfl,hrest⟩:=hlay;have hlen:(Is.drop k).length=Is.length - k:=List.length_drop;have hR:(Pl.rowO ((Is.drop k).map Pl.It.r)).length=Is.length - k:=by rw [Pl.zw0,List.length_map,hlen]
  have hsz:=Pl.take_sz ht;simp only [Pl.Fo.sz] at hsz;have A2:=A1.alloc (.cells #[.map (some q), .int .i64 (kids.len:Int), .slice va kids.len vcap] 83);have X2:=Mem.Blk.new w1 #[.map (some q), .int .i64 (kids.len:Int), .slice va kids.len vcap] 83;have bA:Below w1.heap.size w1 (w1.alloc (.cells #[.map (some q), .int .i64 (kids.len:Int), .slice va kids.len vcap] 83)):=bE0;have bw2:=bw1.trans (bA.mono bw1.size);have HL:Hid (Mem.layX (w1.alloc (.cells #[.map (some q), .int .i64 (kids.len:Int), .slice va kids.len vcap] 83)) (fun b=>w2.heap.size≤b) kids (.slice va kids.len vcap)):=hide (Mem.zk4 ⟨va,vcap,rfl,hrest⟩ bA);have HAP:=hide (Mem.zo3 ⟨va,vcap,rfl,hrest⟩ hap bA)
  have HQM:=hide (hqm.call bA);have HFL:=hide hfl;have HLD:Hid ((Is.drop k).length=Is.length - k):=hlen;have HQW:=hide hqw;clear hqm hfl hqw hap;rw [hlen];have hkk:Is.length - k≤12:=by omega
  generalize Is.length - k=rest at hR hkk HLD ⊢;by_cases hr0:0<rest
  ·have u1:(0:Int)<(rest:Int):=by omega
   have hno:Hid (NN=none):=hide (by rw [←za HNN];exact Pl.nest_rest ht (by omega));have e1:=za HE _ bw2;obtain ⟨⟨c20,c21,c22⟩,f20,f21,f22⟩:=jf3 A2;have BB:=hide bw2;clear A1 A2 X2 bA HL hrest bw1 bw2 HNN HE ht hlen;go_wp2
   go_region
   go_wp2
   refine bodyPost_ret (v:= .tuple #[.agg #[.map none, .int .i64 0, .slice none 0 0], .iface r1 x1]) (by simp [results,Tryz.results42,go_sem,c20,c21,c22]) rfl ⟨Or.inr ⟨za hno,_,_,rfl, .inr ⟨by omega,rfl,rfl⟩⟩,?_⟩
   first |exact Mem.below_drewN (za BB) 1|exact (((Mem.below_drewN (za BB) 1).setCell (Nat.le_refl _) _).setCell (Nat.le_refl _) _).setCell (Nat.le_refl _) _
  have u1:¬ (0:Int)<(rest:Int):=by omega
  have hdz:=kids.shape.depth_le;have hcall:=hide (zl4.depth_any _ 1000 (Nat.le_refl _) kids.shape (some q) (kids.len:Int) _ _ (by have :=za HRL;omega) (Mem.yf1 (za HL)));go_wp2_with fail
  generalize w1.alloc (.cells #[.map (some q), .int .i64 (kids.len:Int), .slice va kids.len vcap] 83)=w3 at bA bw2 HL HAP HQM A2 X2 hcall ⊢;refine (za hcall).mono ?_;rintro e w4 ⟨rfl,b4⟩;have bw4:=bw2.trans (b4.mono bw2.size);have A4:=A2.call b4;have X4:=X2.call b4;have HL4:Hid (Mem.layX w4 (fun b=>w2.heap.size≤b) kids (.slice va kids.len vcap)):=hide (Mem.zk4 (za HL) b4);have HQ4:=hide ((za HQM).call b4);have HA4:=hide (Mem.zo3 (za HL) (za HAP) b4);clear HQM HAP;obtain ⟨⟨c20,c21,c22⟩,f20,f21,f22⟩:=jf3 A4;obtain ⟨c40,c41,c42⟩:=jc3 X4;have hs1:w2.heap.size≤w1.heap.size∨True:= .inr trivial;clear hcall HL b4 A2 X2 A4 X4 hrest hs1;by_cases h4:4<kids.shape.depth+1
  ·have u2:(4:Int)<(kids.shape.depth:Int)+1:=by omega
   have hno:Hid (NN=none):=hide (by rw [←za HNN];exact Pl.nest_deep ht h4);have e1:=za HE _ bw4;have BB:=hide bw4;clear A1 bA bw1 bw2 HNN HE ht hlen bw4 HL4;go_wp2
   go_region
   go_wp2
   refine bodyPost_ret (v:= .tuple #[.agg #[.map none, .int .i64 0, .slice none 0 0], .iface r1 x1]) (by simp [results,Tryz.results42,go_sem,c20,c21,c22]) rfl ⟨Or.inr ⟨za hno,_,_,rfl, .inr ⟨by omega,rfl,rfl⟩⟩,?_⟩
   first |exact Mem.below_drewN (za BB) 1|exact (((Mem.below_drewN (za BB) 1).setCell (Nat.le_refl _) _).setCell (Nat.le_refl _) _).setCell (Nat.le_refl _) _
  ·have u2:¬ (4:Int)<(kids.shape.depth:Int)+1:=by omega
   have hyes:Hid (NN=some kids.shape):=hide (by rw [←za HNN];exact Pl.nest_ok (by have :=za HRL;omega) ht (by omega) h4);have HW2:Hid (w.heap.size<w2.heap.size):=HWW;have BB:=hide bw4;clear A1 bA bw1 bw2 HNN HE ht hlen bw4;go_wp2
   refine bodyPost_ret (v:= .tuple #[.agg #[.map (some q), .int .i64 (kids.len:Int), .slice va kids.len vcap], .nilIface]) (by simp [results,Tryz.results42,go_sem,c20,c21,c22]) rfl ⟨Or.inl ⟨L,kids,q,va,vcap,za hyes,rfl,?_,?_,?_⟩,?_⟩
   ·have h1:=za HW2;have h2:=za HQW;exact ⟨⟨by omega,Mem.ym2 (fun b hb hlt=>by rw [heap_setCell_other _ _ _ _ (by show b≠w.heap.size;omega),heap_setCell_other _ _ _ _ (by show b≠w.heap.size;omega),heap_setCell_other _ _ _ _ (by show b≠w.heap.size;omega)]) (za HL4) (za HA4)⟩,(((za HQ4).set _ _ (by show q≠w.heap.size;omega)).set _ _ (by show q≠w.heap.size;omega)).set _ _ (by show q≠w.heap.size;omega)⟩
   ·have h3:=za HFL;have h4:Is.drop k=[]:=List.eq_nil_of_length_eq_zero (by have :=za HLD;omega);rw [h4,List.map_nil,List.append_nil] at h3;exact h3
   ·refine Mem.zu7 (fun b hb hlt=>⟨?_,by simpa using hlt,?_⟩) (za HL4)
    ·have :=za HW2;omega
    ·have :=za HW2;rw [heap_setCell_other _ _ _ _ (by show b≠w.heap.size;omega),heap_setCell_other _ _ _ _ (by show b≠w.heap.size;omega),heap_setCell_other _ _ _ _ (by show b≠w.heap.size;omega)]
   ·exact (((za BB).setCell (Nat.le_refl _) _).setCell (Nat.le_refl _) _).setCell (Nat.le_refl _) _
 ·have hno:Hid (NN=none):=hide (by rw [←za HNN];exact Pl.nest_fail ht);have A2:=A1.alloc (.cells #[.map none, .int .i64 0, .slice none 0 0] 83);have bw2:=bw1.alloc bw1.size (.cells #[.map none, .int .i64 0, .slice none 0 0] 83);obtain ⟨⟨c20,c21,c22⟩,f20,f21,f22⟩:=jf3 A2;have BB:=hide bw2;clear A1 A2 bw1 bw2 HNN HE ht;go_wp2
  refine bodyPost_ret (v:= .tuple #[.agg #[.map none, .int .i64 0, .slice none 0 0], .iface r1 x1]) (by simp [results,Tryz.results42,go_sem,c20,c21,c22]) rfl ⟨Or.inr ⟨za hno,_,_,rfl, .inr ⟨by omega,rfl,rfl⟩⟩,?_⟩
  first |exact za BB|exact (((za BB).setCell (Nat.le_refl _) _).setCell (Nat.le_refl _) _).setCell (Nat.le_refl _) _
end zr8
end
section
open Go.RowKit Go.Maps
namespace zq4
theorem six4 {w:World} {x:Nat→Addr} (h:WIs.Six w x):zl4.Errs4 w 242 242 242 242 (.pointer (some (x 0))) (.pointer (some (x 1))) (.pointer (some (x 2))) (.pointer (some (x 3))):=⟨h.c0,h.errs⟩
end zq4
end
section
open Go.RowKit Go.Maps
namespace zq4
set_option linter.unusedSimpArgs false in
set_option maxRecDepth 100000 in
set_option maxHeartbeats 1000000 in
theorem view_any (a:Option Addr) (cap:Nat) (Is:List Pl.It) (w:World) (hl:Is.length≤1048576) (hcap:Is.length≤cap) (hv:Mem.zb0 w a Is) (hok:∀x∈Is,x.t.L.length≤1048576∧∀n∈x.t.L,n.path.size≤1048576∧n.data.size≤1048576) (x:Nat→Addr) (hE:WIs.Six w x):
  Calls Tryz.prog 79 #[.slice a Is.length cap] w fun e w'=>∃v,e= .returned (.agg #[v, .int .i64 (Pl.zb9 (Is.map Pl.It.r))])∧Mem.ownN w' w.heap.size v (Pl.ze5 (Is.map Pl.It.r))∧Below w.heap.size w w':=by
 have b0:Below w.heap.size w (w.alloc (.cells #[.slice none 0 0, .int .i64 0] 64)):=bE0;have V0:=Mem.Blk.new w #[.slice none 0 0, .int .i64 0] 64;have hs0:(w.alloc (.cells #[.slice none 0 0, .int .i64 0] 64)).heap.size=w.heap.size+1:=by simp
 have hxl:(Is.map Pl.It.r).length=Is.length:=List.length_map ..;have hno:=hide (zr8.nest_any a cap Is (w.alloc (.cells #[.slice none 0 0, .int .i64 0] 64)) hl hcap (Mem.zb2 hv b0) hok _ _ _ _ _ _ _ _ (six4 (hE.call b0)));have HE:=hide (fun W (b:Below w.heap.size w W)=>hE.call b);have HVL:Hid (400<Is.length→Pl.zb9 (Is.map Pl.It.r)=2∧Pl.ze5 (Is.map Pl.It.r)=[]):=fun h=>Pl.yc4 (by omega);have HVB:Hid (¬400<Is.length→Pl.nest (Pl.rowO (Is.map Pl.It.r))=none→Pl.zb9 (Is.map Pl.It.r)=1∧Pl.ze5 (Is.map Pl.It.r)=[]):=fun h1 h2=>Pl.view_bad (by omega) h2;have HVN:Hid (∀L k,Pl.nest (Pl.rowO (Is.map Pl.It.r))=some (Pl.Fx.shape k)→(Pl.Fx.cons L k .nil).flat=Is.map Pl.It.r→Pl.zi1 L k=none→Pl.zb9 (Is.map Pl.It.r)=9∧Pl.ze5 (Is.map Pl.It.r)=[]):=fun L k h1 h2 h3=>Pl.view_none (Pl.zo6 h1) (Pl.zz8 h1 h2) h3
 have HVS:Hid (∀L k V,Pl.nest (Pl.rowO (Is.map Pl.It.r))=some (Pl.Fx.shape k)→(Pl.Fx.cons L k .nil).flat=Is.map Pl.It.r→Pl.zi1 L k=some V→Pl.zb9 (Is.map Pl.It.r)=0∧Pl.ze5 (Is.map Pl.It.r)=V):=fun L k V h1 h2 h3=>Pl.view_some (Pl.zo6 h1) (Pl.zz8 h1 h2) h3
 have HSZ:Hid (∀L k,Pl.nest (Pl.rowO (Is.map Pl.It.r))=some (Pl.Fx.shape k)→(Pl.Fx.cons L k .nil).flat=Is.map Pl.It.r→k.sz≤1000):=fun L k h1 h2=>by
  have h3:=Pl.zo6 h1;have h4:=congrArg List.length h2;rw [Pl.Fx.zw6,Pl.Fx.sz] at h4;omega
 generalize Pl.zb9 (Is.map Pl.It.r)=C at HVL HVB HVN HVS ⊢;generalize Pl.ze5 (Is.map Pl.It.r)=O at HVL HVB HVN HVS ⊢;generalize Pl.nest (Pl.rowO (Is.map Pl.It.r))=NN at hno HVB HVN HVS HSZ;clear hv hok hE hxl;go_enter Tryz.func79,Tryz.ntmps79
 go_wp2_with fail
 generalize w.alloc (.cells #[.slice none 0 0, .int .i64 0] 64)=w2 at b0 V0 hs0 hno ⊢;refine (za hno).mono ?_;rintro e w1 ⟨hN,b1⟩;have bw1:=b0.trans (b1.mono b0.size);have V1:=V0.call b1;have hs1:=b1.size;clear hno b0 V0
 rcases hN with ⟨L,k,q,a1,cap1,hNN,rfl,⟨-,hqm⟩,⟨hko,hfl⟩,hlay⟩|⟨hNN,r,y,rfl,hwhy⟩
 rotate_left
 ·have V2:=V1.alloc (.cells #[.map none, .int .i64 0, .slice none 0 0] 83);have bw2:=bw1.alloc bw1.size (.cells #[.map none, .int .i64 0, .slice none 0 0] 83)
  rcases hwhy with ⟨h4,rfl,rfl⟩|⟨h4,rfl,rfl⟩
  ·obtain ⟨rfl,rfl⟩:=za HVL h4;have hcd:=hide (WIs.code0 x _ (za HE _ bw2));clear V1 bw1 HVL HVB HVN HVS HSZ hNN;go_wp2_with fail
   refine (za hcd).mono ?_;rintro e w3 ⟨rfl,hw3⟩;subst w3;have HB:=hide bw2;obtain ⟨⟨d0,d1⟩,f0,f1⟩:=jf2 V2;clear hcd V2 bw2;go_wp2
   refine bodyPost_ret (v:= .agg #[.slice none 0 0, .int .i64 2]) (by simp [results,Tryz.results79,go_sem,d0,d1]) rfl ⟨_,rfl,Mem.zb5 _ _,?_⟩
   first |exact ((za HB).setCell (Nat.le_refl _) _).setCell (Nat.le_refl _) _|exact (za HB).setCell (Nat.le_refl _) _
  ·obtain ⟨rfl,rfl⟩:=za HVB (by omega) hNN;have hcd:=hide (WIs.code1 x _ (za HE _ bw2));clear V1 bw1 HVL HVB HVN HVS HSZ hNN;go_wp2_with fail
   refine (za hcd).mono ?_;rintro e w3 ⟨rfl,hw3⟩;subst w3;have HB:=hide bw2;obtain ⟨⟨d0,d1⟩,f0,f1⟩:=jf2 V2;clear hcd V2 bw2;go_wp2
   refine bodyPost_ret (v:= .agg #[.slice none 0 0, .int .i64 1]) (by simp [results,Tryz.results79,go_sem,d0,d1]) rfl ⟨_,rfl,Mem.zb5 _ _,?_⟩
   first |exact ((za HB).setCell (Nat.le_refl _) _).setCell (Nat.le_refl _) _|exact (za HB).setCell (Nat.le_refl _) _
 have V2:=V1.alloc (.cells #[.map (some q), .int .i64 (k.len:Int), .slice a1 k.len cap1] 83);have bw2:=bw1.alloc bw1.size (.cells #[.map (some q), .int .i64 (k.len:Int), .slice a1 k.len cap1] 83);have bA:Below w1.heap.size w1 (w1.alloc (.cells #[.map (some q), .int .i64 (k.len:Int), .slice a1 k.len cap1] 83)):=bE0;have X2:=Mem.Blk.new w1 #[.map (some q), .int .i64 (k.len:Int), .slice a1 k.len cap1] 83;obtain ⟨x0,x1,x2⟩:=jc3 X2;have hlf:=hide (WAsLeaf.leaf_as x 1000 (Nat.le_refl _) _ k L q (k.len:Int) _ _ (za HSZ L k hNN hfl) hko (hqm.call bA) (Mem.zk4 hlay bA) (za HE _ bw2))
 have HVT:=hide (fun V (h:Pl.zi1 L k=some V)=>Pl.view_ok hko h);have HN2:=hide (fun h=>za HVN L k hNN hfl h);have HS2:=hide (fun V h=>za HVS L k V hNN hfl h);clear hqm hko hfl hlay bA X2 V1 bw1 HVL HVB HVN HVS HSZ hNN;go_wp2_with fail
 generalize w1.alloc (.cells #[.map (some q), .int .i64 (k.len:Int), .slice a1 k.len cap1] 83)=w4 at V2 bw2 hlf x0 x1 x2 ⊢;refine (za hlf).mono ?_;rintro e w5 ⟨hX,b5⟩;have bw5:=bw2.trans (b5.mono bw2.size);have V5:=V2.call b5;clear hlf x0 x1 x2
 rcases hX with ⟨V,q5,m5,hV,rfl,hm5⟩|⟨hV,rfl⟩
 ·obtain ⟨rfl,rfl⟩:=za HS2 V hV;have V6:=V5.alloc (.cells #[.map (some q5), .int .i64 m5] 80);have bw6:=bw5.alloc bw5.size (.cells #[.map (some q5), .int .i64 m5] 80);have X6:=Mem.Blk.new w5 #[.map (some q5), .int .i64 m5] 80;have x0:=X6.cell 0;simp only [kGs] at x0;have hri:=hide (rise_tree q5 O (w5.alloc (.cells #[.map (some q5), .int .i64 m5] 80)) (za HVT _ hV) (hm5.call (bE0)));clear V2 V5 bw2 bw5 b5 HVT HN2 HS2 hV hm5 X6;go_wp2_with fail
  generalize w5.alloc (.cells #[.map (some q5), .int .i64 m5] 80)=w6 at V6 bw6 hri x0 ⊢;refine (za hri).mono ?_;rintro e w7 ⟨v7,rfl,own7,b7⟩;obtain ⟨a7,c7,rfl⟩:=Mem.za4 own7;have hR:=V6.lt;have V7:=V6.call b7;have OW:=hide (Mem.zb3 (Mem.za8 (Mem.za8 own7 ⟨w.heap.size,0,none⟩ (.slice a7 O.length c7) (by show w.heap.size<_;omega)) ⟨w.heap.size,1,none⟩ (.int .i64 0) (by show w.heap.size<_;omega)) (show w.heap.size≤w6.heap.size by omega));have HB:=hide (bw6.trans (b7.mono bw6.size));obtain ⟨⟨d0,d1⟩,f0,f1⟩:=jf2 V7;clear hri own7 b7 V6 V7 bw6 x0;go_wp2
  refine bodyPost_ret (v:= .agg #[.slice a7 O.length c7, .int .i64 0]) (by simp [results,Tryz.results79,go_sem,d0,d1]) rfl ⟨_,rfl,za OW,?_⟩;exact ((za HB).setCell (Nat.le_refl _) _).setCell (Nat.le_refl _) _
 ·obtain ⟨rfl,rfl⟩:=za HN2 hV;have V2:=V5.alloc (.cells #[.map none, .int .i64 0] 80);have bw2:=bw5.alloc bw5.size (.cells #[.map none, .int .i64 0] 80);have hcd:=hide (WIs.code5 x _ (za HE _ bw2));clear V5 bw5 b5 HVT HN2 HS2 hV;go_wp2_with fail
  refine (za hcd).mono ?_;rintro e w3 ⟨rfl,hw3⟩;subst w3;have HB:=hide bw2;obtain ⟨⟨d0,d1⟩,f0,f1⟩:=jf2 V2;clear hcd V2 bw2;go_wp2
  refine bodyPost_ret (v:= .agg #[.slice none 0 0, .int .i64 9]) (by simp [results,Tryz.results79,go_sem,d0,d1]) rfl ⟨_,rfl,Mem.zb5 _ _,?_⟩
  first |exact ((za HB).setCell (Nat.le_refl _) _).setCell (Nat.le_refl _) _|exact (za HB).setCell (Nat.le_refl _) _
end zq4
end
end Go.Proofs.YthdhhcgopfgcbaaGreatDoor
