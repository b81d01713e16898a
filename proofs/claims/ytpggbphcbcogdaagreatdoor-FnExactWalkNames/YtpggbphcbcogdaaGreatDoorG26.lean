/- Several texts of one claim in one file: MapGot, MapSize, WJoin, WPathOf, WParentI, WParI. -/
import Derived.Test.YtpggbphcbcogdaaGreatDoorG09
import Derived.Sort.MapsRangeIn
import Derived.Test.YtpggbphcbcogdaaGreatDoorG12
import Derived.Test.YtpggbphcbcogdaaGreatDoorG17
namespace Go.Proofs.YtpggbphcbcogdaaGreatDoor
section
open Go.RowKit Go.Maps
namespace MapN
theorem keyOf_inv {p:ByteArray} {kl:Lit} (h:keyOf Tryz.prog 9 (.string p)=some kl):kl=key p:=by
 simp [keyOf,Tryz.underlying9,mapKey] at h
 rw [←h.2];rfl
structure Reads (D:DataW Unit) (C:List Pl.Nd):Prop where
 has:∀n∈C,Maps.has D (key n.path)=true
 ent:∀ (p:ByteArray) (c:Pl.Nd),(∀z,D.atKey (key p) z=dat c)→c∈C∧p=c.path
structure Got (C T:List Pl.Nd) (left:Lit→Bool):Prop where
 sub:∀t∈T,t∈C
 apart:T.Pairwise (fun a b=>a.path≠b.path)
 seen:∀t∈T,left (key t.path)=false
 all:∀n∈C,left (key n.path)=false→n∈T
theorem got_start {C:List Pl.Nd} {D:DataW Unit} (hD:Reads D C):Got C [] (Maps.has D):=
 ⟨fun t h=>absurd h (by simp),List.Pairwise.nil,fun t h=>absurd h (by simp),fun n hn h=>by rw [hD.has n hn] at h;cases h⟩
theorem one_apart {C:List Pl.Nd} (h:C.Pairwise (fun a b=>a.path≠b.path)) {a b:Pl.Nd} (ha:a∈C) (hb:b∈C) (e:a.path=b.path):a=b:=by
 induction h with
 |nil=>cases ha
 |cons h1 _ ih=>
  rcases List.mem_cons.1 ha with ha1|ha1
  ·rcases List.mem_cons.1 hb with hb1|hb1
   ·rw [ha1,hb1]
   ·exact absurd (ha1 ▸ e) (h1 _ hb1)
  ·rcases List.mem_cons.1 hb with hb1|hb1
   ·exact absurd (hb1 ▸ e).symm (h1 _ ha1)
   ·exact ih ha1 hb1
theorem entry_in {C:List Pl.Nd} {p:ByteArray} {c:Pl.Nd} (hC:C.Pairwise (fun a b=>a.path≠b.path)) (h:∀z,(mapOf C).atKey (key p) z=dat c):c∈C∧p=c.path:=by
 by_cases hp:∃n∈C,n.path=p
 ·obtain ⟨n,hn,rfl⟩:=hp;have e:=(at_yes hC hn).2 (dat c);rw [h] at e;have e2:=dat_inj e;subst e2;exact ⟨hn,rfl⟩
 ·exfalso;have hm:∀n∈C,n.path≠p:=fun n hn e=>hp ⟨n,hn,e⟩;have h1:=(zs8 p C (.map []) hm).2;have a:∀z,dat c=z:=fun z=>by rw [←h z];exact h1 z
  have a1:=a (dat ⟨p,c.kind+1,p,0,0⟩);have a2:=dat_inj a1;have a3:=congrArg Pl.Nd.kind a2;simp only at a3;omega
theorem zv4 {C:List Pl.Nd} (hC:C.Pairwise (fun a b=>a.path≠b.path)):Reads (mapOf C) C:=⟨fun _ hn=>(at_yes hC hn).1,fun _ _ h=>entry_in hC h⟩
theorem got_step {C T:List Pl.Nd} {left:Lit→Bool} {c:Pl.Nd} (hC:C.Pairwise (fun a b=>a.path≠b.path)) (h:Got C T left) (hc:c∈C) (hl:left (key c.path)=true):Got C (T++[c]) (fun z=>left z&&!z.sameKey (key c.path)):=by
 have same:(key c.path).sameKey (key c.path)=true:=by simp [key,Lit.sameKey]
 refine ⟨fun t ht=>?_,?_,fun t ht=>?_,fun n hn hf=>?_⟩
 ·rcases List.mem_append.1 ht with ht|ht
  ·exact h.sub t ht
  ·simp at ht;subst ht;exact hc
 ·rw [List.pairwise_append];refine ⟨h.apart,List.pairwise_singleton _ _,fun a ha b hb e=>?_⟩;simp at hb;subst hb
  have :=h.seen a ha;rw [e,hl] at this;cases this
 ·rcases List.mem_append.1 ht with ht|ht
  ·show (left (key t.path)&&_)=false;rw [h.seen t ht];rfl
  ·simp at ht;subst ht
   show (left (key t.path)&&!(key t.path).sameKey (key t.path))=false;rw [same];simp
 ·by_cases e:n.path=c.path
  ·rw [one_apart hC hn hc e];simp
  ·refine List.mem_append.2 (.inl (h.all n hn ?_));have hs:=sameKey_ne (key_ne e);have hf':(left (key n.path)&&!(key n.path).sameKey (key c.path))=false:=hf;rw [hs] at hf'
   simpa using hf'
theorem got_end {C T:List Pl.Nd} {left:Lit→Bool} (hC:C.Pairwise (fun a b=>a.path≠b.path)) (h:Got C T left) (hl:∀k,left k=false):T.Perm C:=by
 refine (List.perm_ext_iff_of_nodup (h.apart.imp (fun {a b} hne e=>hne (by rw [e]))) (hC.imp (fun {a b} hne e=>hne (by rw [e])))).2 fun x=>⟨h.sub x,fun hx=>h.all x hx (hl _)⟩
end MapN
end
section
open Go.RowKit Go.Maps
namespace MapN
theorem size_fold:∀ (C:List Pl.Nd) (D:DataW Unit),Tidy D→C.Pairwise (fun a b=>a.path≠b.path)→(∀n∈C,Maps.has D (key n.path)=false)→Maps.size (C.foldl (fun D n=>D.put (key n.path) (dat n)) D)=Maps.size D+C.length:=by
 intro C
 induction C with
 |nil=>intro D _ _ _;rfl
 |cons n C ih=>
  intro D hD hp hn;have hp':=List.pairwise_cons.1 hp;rw [List.foldl_cons,ih _ (hD.put (key_is _) _) hp'.2 (fun m hm=>by rw [has_put_other (key_ne (fun e=>hp'.1 m hm e.symm))];exact hn m (List.mem_cons_of_mem _ hm)),size_put hD,if_neg (by rw [hn n List.mem_cons_self];simp),List.length_cons];omega
theorem size_mapOf {C:List Pl.Nd} (h:C.Pairwise (fun a b=>a.path≠b.path)):Maps.size (mapOf C)=C.length:=by
 have :=size_fold C (.map []) tidy_empty h (fun _ _=>rfl);rw [mapOf,this];show 0+_=_;omega
end MapN
end
section
open Go.RowKit
namespace WJoin
theorem Tryz.one8 (w:World):(sizeOf 5).run Tryz.prog w= .ok 1 w:=by kernel_rfl
theorem Tryz.info8j:(Tryz.prog.info? 5).map (fun i=>(i.zero,i.size,i.bytes))=some (some (.int .u8 0),1,1):=by kernel_rfl

set_option maxRecDepth 100000 in
set_option maxHeartbeats 400000 in
theorem any (b o cap:Nat) (ts:List ByteArray) (w:World) (hn:ts.length≤1000000) (ht:Pl.tot ts≤1000000000)
  (hcell:∀j t,ts[j]? =some t→w.cell? ⟨b,o+j,none⟩=some (.string t)) (hb:b<w.heap.size):
  Calls Tryz.prog 80 #[.slice (some ⟨b,o,none⟩) ts.length cap] w fun e w'=>e= .returned (.string ⟨(Pl.cat ts).toArray⟩)∧Below w.heap.size w w':=by
 have HC:=hide hcell;clear hcell;go_enter Tryz.func80,Tryz.ntmps80
 go_wp2
 go_loop [3,12] (fun n i=>∃k:Nat,k≤ts.length∧i= .int .i64 k∧n= .int .i64 (Pl.tot (ts.take k):Nat)) (fun _ i=>ts.length - (intOf i).toNat)
 case atStart=>exact ⟨0,Nat.zero_le _,rfl,rfl⟩
 case round=>
  obtain ⟨k,hk,rfl,rfl⟩:=hrel;by_cases hlt:k<ts.length
  ·obtain ⟨t,hkt⟩:∃t,ts[k]? =some t:=⟨_,List.getElem?_eq_getElem hlt⟩;have hc:=za HC k t hkt;have H1:=hide (Pl.tot_snoc ts k t hkt);have h1:=Pl.tot_le ts (k+1);have h2:Pl.tot (ts.take k)+t.size≤1000000000:=by have :=za H1;omega
   clear hkt h1;go_wp2
   go_round
   case rel=>exact ⟨k+1,by omega,by go_num,by rw [za H1];go_num⟩
   case measure=>simp [intOf];omega
  ·have HE:Hid (Pl.tot (ts.take k)=Pl.tot ts):=by
    show _=_;rw [List.take_of_length_le (by omega)]
   have hmk:=Mem.make_bytes (P:=Tryz.prog) Tryz.underlying96 Tryz.info8j (Pl.tot ts) ht w;rw [HE.out];go_wp2
   go_loopw [7,25] (fun p i wr=>∃ (k:Nat) (cur:Array Value),k≤ts.length∧i= .int .i64 k∧p= .int .i64 (Pl.tot (ts.take k):Nat)∧wr.heap[w.heap.size]? =some (.cells cur 5 (0,0))∧cur.size=Pl.tot ts∧
     Hid (cur.toList.take (Pl.tot (ts.take k))=(Pl.cat (ts.take k)).map Pl.zd3)∧Below w.heap.size w wr) (fun _ i _=>ts.length - (intOf i).toNat)
   case atStart=>exact ⟨0,Mem.zeros (Pl.tot ts),Nat.zero_le _,rfl,rfl,heap_alloc_new w _,Mem.zeros_size _,rfl,(Below.refl _ _).alloc (Nat.le_refl _) _⟩
   case round=>
    obtain ⟨k,cur,hk,rfl,rfl,hrow,hcs,HP,hbel⟩:=hrel;by_cases hlt:k<ts.length
    ·obtain ⟨t,hkt⟩:∃t,ts[k]? =some t:=⟨_,List.getElem?_eq_getElem hlt⟩;have hc:wr.cell? ⟨b,o+k,none⟩=some (.string t):=(hbel.cell (p:=⟨b,o+k,none⟩) hb).trans (za HC k t hkt);have H1:=hide (Pl.tot_snoc ts k t hkt);have h1:=Pl.tot_le ts (k+1);have h2:Pl.tot (ts.take k)+t.size≤Pl.tot ts:=by have :=za H1;omega
     have HS:=hide (Pl.part_step hkt HP.out);obtain ⟨D,w2,hsl,hcp,hrow2,hbel2⟩:=Mem.copy_on (P:=Tryz.prog) (sT:=9) Tryz.underlying96 Tryz.one8 wr w.heap.size (Pl.tot (ts.take k)) (Pl.tot ts) cur hrow hcs t h2;have HROW2:=hide hrow2;have HB2:=hide (hbel.trans hbel2)
     have hsz:Hid ((cur.toList.take (Pl.tot (ts.take k))++t.data.toList.map Pl.zd3++cur.toList.drop (Pl.tot (ts.take k)+t.size)).toArray.size=Pl.tot ts):=by
      show _=_;have :t.data.size=t.size:=rfl;simp [this]
      omega
     clear hkt h1 hrow hrow2 hbel2 hbel;go_wp2
     go_roundw
     case rel=>exact ⟨k+1,_,by omega,by go_num,by rw [za H1];go_num,HROW2,hsz,HS,HB2⟩
     case measure=>simp [intOf];omega
    ·have HE2:Hid (Pl.cat (ts.take k)=Pl.cat ts∧Pl.tot (ts.take k)=Pl.tot ts):=by
      show _∧_;rw [List.take_of_length_le (by omega)];exact ⟨rfl,rfl⟩
     have hp:cur.toList.take (Pl.tot ts)=(Pl.cat ts).map Pl.zd3:=by have :=HP.out;rwa [HE2.out.1,HE2.out.2] at this
     have hcv:=Mem.row_text (P:=Tryz.prog) (cap:=Pl.tot ts) Tryz.underlying96 Tryz.underlying5 Tryz.underlying9 (Pl.cat ts) (Pl.zs7 ts) hrow hp;clear hp hrow;go_wp2
     go_ret
     exact ⟨rfl,hbel⟩
end WJoin
end
section
open Go.RowKit
namespace Pl
def zb7 (ts:List ByteArray):Nat→List ByteArray
 |0=>[]
 |k+1=>zb7 ts k++(if k=0 then [] else [⟨#[47]⟩])++[ts.getD k ⟨#[]⟩]
theorem glueL_snoc (A:List (List UInt8)) (a:List UInt8):zd8 (A++[a])=zd8 A++(if A=[] then [] else [47])++a:=by
 by_cases h:A=[]
 ·subst h;rfl
 ·rw [zv1 h (by simp),if_neg h];simp [zd8]
theorem zw6 (A B:List ByteArray):cat (A++B)=cat A++cat B:=by simp [cat]
theorem parts_cat (ts:List ByteArray):∀k,k≤ts.length→cat (zb7 ts k)=zd8 ((ts.take k).map by_):=by
 intro k
 induction k with
 |zero=>intro _;rfl
 |succ k ih=>
  intro hk;have hlt:k<ts.length:=by omega
  rw [zb7,zw6,zw6,ih (by omega),List.take_add_one,List.getElem?_eq_getElem hlt,Option.toList_some,List.map_append,List.map_cons,List.map_nil,glueL_snoc,cat_one];have h1:ts.getD k ⟨#[]⟩=ts[k]:=by simp [List.getD_eq_getElem?_getD,List.getElem?_eq_getElem hlt]
  rw [h1]
  have h2:cat (if k=0 then [] else [(⟨#[47]⟩:ByteArray)])=if (ts.take k).map by_=[] then [] else [47]:=by
   by_cases h0:k=0
   ·subst h0;rfl
   ·rw [if_neg h0,if_neg (by simp;exact ⟨h0,by intro e;subst e;simp at hlt⟩)];rfl
  rw [h2];rfl
theorem parts_glue (ts:List ByteArray):(⟨(cat (zb7 ts ts.length)).toArray⟩:ByteArray)=glue ts:=by
 rw [parts_cat ts _ (Nat.le_refl _),List.take_length];rfl
theorem parts_tot (ts:List ByteArray):tot (zb7 ts ts.length)=(glue ts).size:=by
 rw [←zs7,parts_cat ts _ (Nat.le_refl _),List.take_length,←zk3,zf]
theorem parts_length (ts:List ByteArray):∀k,(zb7 ts k).length≤2*k:=by
 intro k
 induction k with
 |zero=>simp [zb7]
 |succ k ih=>
  rw [zb7];by_cases h:k=0
  ·simp [h,zb7]
  ·simp [h];omega
theorem parts_first {ts:List ByteArray} {t:ByteArray} (ht:ts[0]? =some t):zb7 ts 1=zb7 ts 0++[t]:=by
 simp [zb7,List.getD_eq_getElem?_getD,ht]
theorem parts_next {ts:List ByteArray} {k:Nat} {t:ByteArray} (hk:k≠0) (ht:ts[k]? =some t):zb7 ts (k+1)=(zb7 ts k++[⟨#[47]⟩])++[t]:=by
 simp [zb7,List.getD_eq_getElem?_getD,ht,hk]
end Pl
namespace zk1
theorem make12 (w:World):(Instr.makeSlice 24 (.int .i64 0) (.int .i64 12)).run Tryz.prog w= .ok (.slice (some ⟨w.heap.size,0,none⟩) 0 12) (w.alloc (.cells (madeCells (Value.string ⟨#[]⟩).cells 12) 9)):=by
 obtain ⟨i0,h0,h1,h2,h3⟩:=info_parts WWords.zk5;have h:=run_make (P:=Tryz.prog) w 24 9 i0 (.string ⟨#[]⟩) Tryz.underlying24 h0 h1 .i64 .i64 0 12 (by omega) (by omega) (by rw [h3];omega) (by omega);rw [h];simp [h2]

set_option maxRecDepth 100000 in
set_option maxHeartbeats 400000 in
theorem any (v:Value) (ts:List ByteArray) (w:World) (hn:ts.length≤1000) (hg:(Pl.glue ts).size≤1000000) (hv:Mem.ze5 w v ts):
  Calls Tryz.prog 63 #[v] w fun e w'=>e= .returned (.string (Pl.glue ts))∧Below w.heap.size w w':=by
 obtain ⟨i0,hi,hz0,hz1,hz2⟩:=info_parts WWords.zk5;have hmk:=make12;have H0:Hid ((⟨(Pl.cat (Pl.zb7 ts ts.length)).toArray⟩:ByteArray)=Pl.glue ts):=Pl.parts_glue ts;have H1:Hid (Pl.tot (Pl.zb7 ts ts.length)≤1000000000):=by have :=Pl.parts_tot ts;show _≤_;omega
 by_cases hts:ts=[]
 ·subst hts
  have hv2:∃a cap,v= .slice a 0 cap:=by
   rcases hv with ⟨rfl,_⟩|⟨b,o,cap,rfl,_⟩
   ·exact ⟨_,_,rfl⟩
   ·exact ⟨_,_,rfl⟩
  obtain ⟨a,cap,rfl⟩:=hv2;go_enter Tryz.func63,Tryz.ntmps63
  go_wp2
  go_loop [3,9] (fun p i=>p= .slice (some ⟨w.heap.size,0,none⟩) 0 12∧i= .int .i64 0) (fun _ _=>0)
  case atStart=>exact ⟨rfl,rfl⟩
  case round=>
   obtain ⟨rfl,rfl⟩:=hrel;go_wp2_with fail
   refine (WJoin.any w.heap.size 0 12 [] _ (by simp) (by simp [Pl.tot]) (fun j t h=>by simp at h) (by simp)).mono ?_;rintro e w1 ⟨rfl,hb1⟩;go_wp2
   go_ret
   exact ⟨rfl,(bE0).trans (hb1.mono (by simp))⟩
 have hpos:0<ts.length:=List.length_pos_iff.2 hts
 have HNE:Hid (Pl.zb7 ts ts.length≠[]):=by
  intro h;obtain ⟨n,hn⟩:∃n,ts.length=n+1:=⟨ts.length - 1,by omega⟩;rw [hn,Pl.zb7] at h;simp at h
 rcases hv with ⟨rfl,rfl⟩|⟨b,o,cap,rfl,hb,hcell⟩
 ·exact absurd rfl hts
 ·have HC:=hide hcell;clear hcell;go_enter Tryz.func63,Tryz.ntmps63
  go_wp2
  go_loopw [3,9] (fun p i wr=>∃k:Nat,k≤ts.length∧i= .int .i64 (k:Int)∧wr.ownsRow w.heap.size 9 1 p (Pl.zb7 ts k).length ((Pl.zb7 ts k).map Value.string)∧Below w.heap.size w wr) (fun _ i _=>ts.length - (intOf i).toNat)
  case atStart=>exact ⟨0,Nat.zero_le _,rfl,World.ownsRow_made _ _ 12 (Nat.le_refl _) (by unfold maxLen;omega) (size_madeCells _ _),bE0⟩
  case round=>
   obtain ⟨k,hk,rfl,hown,hbel⟩:=hrel;have hb1:=hbel.size;have hpl:=Pl.parts_length ts k;by_cases hlt:k<ts.length
   ·obtain ⟨t,hkt⟩:∃t,ts[k]? =some t:=⟨_,List.getElem?_eq_getElem hlt⟩;have hc:wr.cell? ⟨b,o+k,none⟩=some (.string t):=(hbel.cell (p:=⟨b,o+k,none⟩) hb).trans (za HC k t hkt);by_cases h0:k=0
    ·have HS:Hid (Pl.zb7 ts (k+1)=Pl.zb7 ts k++[t]):=by subst h0;exact Pl.parts_first hkt
     have hp:¬ (0:Int)<(k:Int):=by omega
     clear hkt h0;go_wp2_with (at_builtin;refine wpList_append_own _ rfl _ _ 24 rfl w.heap.size 9 i0 (.string ⟨#[]⟩) 1 16 Tryz.underlying24 hi hz0 hz1 hz2 rfl (by decide) _ _ _ rfl (hown.alloc _) ⟨wr.heap.size,0,none⟩ 1 1 [.string t] rfl rfl (Mem.zd0 _ _ _) (Mem.one_str _) (by unfold maxLen;omega) (by omega) (by simp;omega) ?_)
     ·intro v' w2 hown' hgrow _;have hbel':=Mem.ze0 hbel (Nat.le_refl _) hown hgrow
      have hown2:Hid (w2.ownsRow w.heap.size 9 1 v' (Pl.zb7 ts (k+1)).length ((Pl.zb7 ts (k+1)).map Value.string)):=by
       show World.ownsRow _ _ _ _ _ _ _;rw [za HS];simpa using hown'
      clear hgrow hown hbel hown' hc;go_wp2
      go_roundw
      case rel=>exact ⟨k+1,by omega,by go_num,hown2,hbel'⟩
      case measure=>simp [intOf];omega
    ·have HS:=hide (Pl.parts_next h0 hkt);have hp:(0:Int)<(k:Int):=by omega
     clear hkt;go_wp2_with (at_builtin;refine wpList_append_own _ rfl _ _ 24 rfl w.heap.size 9 i0 (.string ⟨#[]⟩) 1 16 Tryz.underlying24 hi hz0 hz1 hz2 rfl (by decide) _ _ _ rfl (hown.alloc _) ⟨wr.heap.size,0,none⟩ 1 1 [.string ⟨#[47]⟩] rfl rfl (Mem.zd0 _ _ _) (Mem.one_str _) (by unfold maxLen;omega) (by omega) (by simp;omega) ?_)
     ·intro v1 w1 hown' hgrow _;have hbel':=Mem.ze0 hbel (Nat.le_refl _) hown hgrow;have hown1:w1.ownsRow w.heap.size 9 1 v1 (Pl.zb7 ts k++[(⟨#[47]⟩:ByteArray)]).length ((Pl.zb7 ts k++[(⟨#[47]⟩:ByteArray)]).map Value.string):=by simpa using hown'
      have hb2:=hbel'.size;have hl2:(Pl.zb7 ts k++[(⟨#[47]⟩:ByteArray)]).length≤2*k+1:=by simp;omega
      clear hgrow hown hbel hown' hc hpl;go_wp2_with (at_builtin;refine wpList_append_own _ rfl _ _ 24 rfl w.heap.size 9 i0 (.string ⟨#[]⟩) 1 16 Tryz.underlying24 hi hz0 hz1 hz2 rfl (by decide) _ _ _ rfl (hown1.alloc _) ⟨w1.heap.size,0,none⟩ 1 1 [.string t] rfl rfl (Mem.zd0 _ _ _) (Mem.one_str _) (by unfold maxLen;omega) (by omega) (by simp;omega) ?_)
      ·intro v' w2 hown' hgrow _;have hbel2:=Mem.ze0 hbel' (Nat.le_refl _) hown1 hgrow
       have hown2:Hid (w2.ownsRow w.heap.size 9 1 v' (Pl.zb7 ts (k+1)).length ((Pl.zb7 ts (k+1)).map Value.string)):=by
        show World.ownsRow _ _ _ _ _ _ _;rw [za HS];simpa using hown'
       clear hgrow hown1 hbel' hown';go_wp2
       go_roundw
       case rel=>exact ⟨k+1,by omega,by go_num,hown2,hbel2⟩
       case measure=>simp [intOf];omega
   ·obtain rfl:k=ts.length:=by omega
    rcases Mem.ze4 hown with ⟨rfl,hnil⟩|⟨g,o',cap',rfl,hgl,hcell'⟩
    ·exact absurd hnil HNE.out
    ·have HC':=hide hcell';clear hcell' hown;go_wp2_with fail
     refine (WJoin.any g o' cap' (Pl.zb7 ts ts.length) _ (by omega) H1.out HC'.out hgl).mono ?_;rintro e w1 ⟨rfl,hb1⟩;go_wp2
     go_ret
     exact ⟨by rw [H0.out];rfl,hbel.trans (hb1.mono (by omega))⟩
end zk1
end
section
open Go.RowKit
namespace zh3
set_option maxRecDepth 100000 in
set_option maxHeartbeats 4000000 in
theorem zl2 (s:ByteArray) (w:World) (hs:s.size≤1048576):
  Calls Tryz.prog 59 #[.string s] w fun e w'=>e= .returned (.string (Pl.glue (Pl.zb0 s).dropLast))∧Below w.heap.size w w':=by
 have hn:=hide (zn6.any s w hs);have hL:=hide (Pl.ze2 s);generalize Pl.za2 s=r at hn;generalize Pl.zb0 s=L at hn hL;go_enter Tryz.func59,Tryz.ntmps59
 go_wp2_with fail
 refine (za hn).mono ?_;rintro e w1 ⟨v,rfl,hown,hb⟩;clear hn
 rcases Mem.texts hown with ⟨rfl,rfl⟩|⟨g,cap,rfl,hcap,hm,hgb,hgl,hcell⟩
 ·clear hown;go_wp2_with fail
  refine (zk1.any _ [] _ (by simp) (by decide) (.inl ⟨rfl,rfl⟩)).mono ?_;rintro e w2 ⟨rfl,hb2⟩;have hb3:=hb.trans (hb2.mono hb.size);clear hb hb2;go_wp2
  go_ret
  exact ⟨rfl,hb3⟩
 ·clear hown;have hm2:=hm;have HC:=hide hcell;clear hcell;unfold maxLen at hm2;by_cases h0:L.length=0
  ·obtain rfl:L=[]:=List.eq_nil_of_length_eq_zero h0;have m0:max (-1:Int) 0=0:=by decide
   go_wp2_with fail
   refine (zk1.any _ [] _ (by simp) (by decide) (.inr ⟨g,0,cap,rfl,hgl,fun j t h=>by simp at h⟩)).mono ?_;rintro e w2 ⟨rfl,hb2⟩;have hb3:=hb.trans (hb2.mono hb.size);clear hb hb2;go_wp2
   go_ret
   exact ⟨rfl,hb3⟩
  ·have h1:(0:Int)≤(L.length:Int) - 1:=by omega
   have m1:max ((L.length:Int) - 1) 0=(L.length:Int) - 1:=by omega
   have h2:(L.length:Int) - 1≤(cap:Int):=by omega
   have E:=hide (Pl.drop_last L);go_wp2_with fail
   try rw [show (max ((L.length:Int) - 1) 0).toNat=L.length - 1 by omega]
   refine (zk1.any _ (L.take (L.length - 1)) _ ?_ (Pl.zm (Pl.zn1 (za hL).1 _) ?_) (Mem.take_texts hgl (za HC) _ (by omega))).mono ?_
   ·have :=(za hL).2;simp;omega
   ·have :=(za hL).2;simp;omega
   rintro e w2 ⟨rfl,hb2⟩;rw [za E];have hb3:=hb.trans (hb2.mono hb.size);clear hb hb2;go_wp2
   go_ret
   exact ⟨rfl,hb3⟩
end zh3
end
section
open Go.RowKit
namespace zh3
set_option maxRecDepth 100000 in
set_option maxHeartbeats 4000000 in
theorem base_any (s:ByteArray) (w:World) (hs:s.size≤1048576):
  Calls Tryz.prog 60 #[.string s] w fun e w'=>e= .returned (.string (Pl.glue ((Pl.zb0 s).drop ((Pl.zb0 s).length - 1))))∧Below w.heap.size w w':=by
 have hn:=hide (zn6.any s w hs);have hL:=hide (Pl.ze2 s);generalize Pl.za2 s=r at hn;generalize Pl.zb0 s=L at hn hL;go_enter Tryz.func60,Tryz.ntmps60
 go_wp2_with fail
 refine (za hn).mono ?_;rintro e w1 ⟨v,rfl,hown,hb⟩;clear hn
 rcases Mem.texts hown with ⟨rfl,rfl⟩|⟨g,cap,rfl,hcap,hm,hgb,hgl,hcell⟩
 ·clear hown;go_wp2_with fail
  refine (zk1.any _ [] _ (by simp) (by decide) (.inl ⟨rfl,rfl⟩)).mono ?_;rintro e w2 ⟨rfl,hb2⟩;have hb3:=hb.trans (hb2.mono hb.size);clear hb hb2;go_wp2
  go_ret
  exact ⟨rfl,hb3⟩
 ·clear hown;have hm2:=hm;have HC:=hide hcell;clear hcell;unfold maxLen at hm2;by_cases h0:L.length=0
  ·obtain rfl:L=[]:=List.eq_nil_of_length_eq_zero h0;have m0:max (-1:Int) 0=0:=by decide
   go_wp2_with fail
   refine (zk1.any _ [] _ (by simp) (by decide) (.inr ⟨g,0,cap,rfl,hgl,fun j t h=>by simp at h⟩)).mono ?_;rintro e w2 ⟨rfl,hb2⟩;have hb3:=hb.trans (hb2.mono hb.size);clear hb hb2;go_wp2
   go_ret
   exact ⟨rfl,hb3⟩
  ·have h1:(0:Int)≤(L.length:Int) - 1:=by omega
   have m1:max ((L.length:Int) - 1) 0=(L.length:Int) - 1:=by omega
   have h2:(L.length:Int) - 1≤(L.length:Int):=by omega
   have h3:cap≠L.length - 1:=by omega
   go_wp2_with fail
   refine (zk1.any _ (L.drop (L.length - 1)) _ ?_ (Pl.zm (Pl.all_drop (za hL).1 _) ?_) (Mem.drop_texts hgl (za HC) _)).mono ?_
   ·have :=(za hL).2;simp;omega
   ·have :=(za hL).2;simp;omega
   rintro e w2 ⟨rfl,hb2⟩;have hb3:=hb.trans (hb2.mono hb.size);clear hb hb2;go_wp2
   go_ret
   exact ⟨rfl,hb3⟩
end zh3
end
end Go.Proofs.YtpggbphcbcogdaaGreatDoor
