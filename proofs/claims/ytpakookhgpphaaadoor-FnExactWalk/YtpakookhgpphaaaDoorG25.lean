/- Several texts of one claim in one file: MapN, WJoin, WPathOf, WParentI. -/
import Derived.Test.YtpakookhgpphaaaDoorG01
import Derived.Test.YtpakookhgpphaaaDoorG00
import Derived.Test.YtpakookhgpphaaaDoorProg
import Derived.Below
import Derived.Maps.OwnSet
import Derived.Test.YtpakookhgpphaaaDoorG06
import Derived.WalkSpells
import Derived.Test.YtpakookhgpphaaaDoorG16
import Derived.Test.YtpakookhgpphaaaDoorG09
import Derived.Test.YtpakookhgpphaaaDoorG17
namespace Go.Proofs.YtpakookhgpphaaaDoor
section
open Go.RowKit Go.Maps
namespace MapN
def key (p:ByteArray):Lit:= .string p.data.toList
def dat (n:Pl.Nd):DataW Unit:= .agg [.lit (.string n.path.data.toList), .lit (.int .i64 n.kind), .lit (.string n.data.data.toList), .lit (.int .i64 n.time), .lit (.int .i64 n.mark)]
theorem zo {a b:Pl.Nd} (h:dat a=dat b):a=b:=by
 obtain ⟨p,k,d,t,m⟩:=a;obtain ⟨p',k',d',t',m'⟩:=b;simp only [dat,DataW.agg.injEq,List.cons.injEq,DataW.lit.injEq,Lit.string.injEq,Lit.int.injEq,and_true,true_and] at h;obtain ⟨h1,h2,h3,h4,h5⟩:=h;have e1:p=p':=Pl.zh4 h1;have e2:d=d':=Pl.zh4 h3;subst e1 e2 h2 h4 h5;rfl
def elem:Value→Option (DataW Unit × List MemPlace)
 | .agg cs=>match cs.toList with
  | [.string p, .int .i64 k, .string d, .int .i64 t, .int .i64 m]=>some (dat ⟨p,k,d,t,m⟩,[])
  |_=>none
 |_=>none
theorem zn8 (n:Pl.Nd):elem n.val=some (dat n,[]):=rfl
theorem elem_inv {v:Value} {d:DataW Unit} {ps:List MemPlace} (h:elem v=some (d,ps)):∃n:Pl.Nd,v=n.val∧d=dat n:=by
 unfold elem at h
 split at h
 ·rename_i cs
  split at h
  ·rename_i p k d' t m hcs
   simp only [Option.some.injEq,Prod.mk.injEq] at h;refine ⟨⟨p,k,d',t,m⟩,?_,h.1.symm⟩;rw [Pl.Nd.val,show cs=cs.toList.toArray by simp,hcs]
  ·cases h
 ·cases h
def mapOf (C:List Pl.Nd):DataW Unit:=C.foldl (fun D n=>D.put (key n.path) (dat n)) (.map [])
theorem zu8 (C:List Pl.Nd) (n:Pl.Nd):mapOf (C++[n])=(mapOf C).put (key n.path) (dat n):=by simp [mapOf,List.foldl_append]
theorem zp1 (p:ByteArray):WideAt.IsKeyLit (key p):=by simp [key,WideAt.IsKeyLit]
theorem key_ne {a b:ByteArray} (h:a≠b):key a≠key b:=fun e=>h (Pl.zh4 (Lit.string.inj e))
theorem zu7:∀ (C:List Pl.Nd) (D:DataW Unit),IsMap D→IsMap (C.foldl (fun D n=>D.put (key n.path) (dat n)) D):=by
 intro C
 induction C with
 |nil=>intro D h;exact h
 |cons n C ih=>intro D h;exact ih _ (h.put _ _)
theorem zl3 (C:List Pl.Nd):IsMap (mapOf C):=zu7 C _ isMap_empty
theorem zi6 (p:ByteArray):∀ (C:List Pl.Nd) (D:DataW Unit),(∀n∈C,n.path≠p)→Maps.has (C.foldl (fun D n=>D.put (key n.path) (dat n)) D) (key p)=Maps.has D (key p)∧∀z,(C.foldl (fun D n=>D.put (key n.path) (dat n)) D).atKey (key p) z=D.atKey (key p) z:=by
 intro C
 induction C with
 |nil=>intro D _;exact ⟨rfl,fun _=>rfl⟩
 |cons n C ih=>
  intro D h;have h1:key p≠key n.path:=key_ne (fun e=>h n List.mem_cons_self e.symm);obtain ⟨i1,i2⟩:=ih (D.put (key n.path) (dat n)) (fun m hm=>h m (List.mem_cons_of_mem _ hm));refine ⟨?_,fun z=>?_⟩
  ·show Maps.has (C.foldl _ (D.put (key n.path) (dat n))) (key p)=_;rw [i1,has_put_other h1]
  ·show (C.foldl _ (D.put (key n.path) (dat n))).atKey (key p) z=_;rw [i2,atKey_put_other h1]
theorem has_no {C:List Pl.Nd} {p:ByteArray} (h:∀n∈C,n.path≠p):Maps.has (mapOf C) (key p)=false:=by
 rw [mapOf,(zi6 p C _ h).1];rfl
theorem zr6 {C:List Pl.Nd} {n:Pl.Nd} (hC:C.Pairwise (fun a b=>a.path≠b.path)) (hn:n∈C):Maps.has (mapOf C) (key n.path)=true∧∀z,(mapOf C).atKey (key n.path) z=dat n:=by
 obtain ⟨A,B,rfl⟩:=List.append_of_mem hn;rw [List.pairwise_append] at hC;have h2:=(List.pairwise_cons.1 hC.2.1).1;have e:mapOf (A++n::B)=B.foldl (fun D n=>D.put (key n.path) (dat n)) ((mapOf A).put (key n.path) (dat n)):=by simp [mapOf,List.foldl_append]
 obtain ⟨i1,i2⟩:=zi6 n.path B ((mapOf A).put (key n.path) (dat n)) (fun m hm e=>h2 m hm e.symm);rw [e];exact ⟨by rw [i1,has_put_same (zl3 A) (zp1 _)],fun z=>by rw [i2,atKey_put_same (zl3 A) (zp1 _)]⟩
theorem law:Keyed Tryd.prog 9:=string_keyed Tryd.underlying9
theorem zeroN (w:World):(zeroValue 25).run Tryd.prog w= .ok (Pl.Nd.val ⟨⟨#[]⟩,0,⟨#[]⟩,0,0⟩) w:=by kernel_rfl
theorem zk1 {p:ByteArray} (h:p.size≤maxLen):keyOf Tryd.prog 9 (.string p)=some (key p):=WideMaps.keyOf_string_mk Tryd.underlying9 h
end MapN
end
section
open Go.RowKit
namespace WJoin
theorem Tryd.one8 (w:World):(sizeOf 5).run Tryd.prog w= .ok 1 w:=by kernel_rfl
theorem Tryd.info8j:(Tryd.prog.info? 5).map (fun i=>(i.zero,i.size,i.bytes))=some (some (.int .u8 0),1,1):=by kernel_rfl

set_option maxRecDepth 100000 in
set_option maxHeartbeats 400000 in
theorem any (b o cap:Nat) (ts:List ByteArray) (w:World) (hn:ts.length≤1000000) (ht:Pl.tot ts≤1000000000)
  (hcell:∀j t,ts[j]? =some t→w.cell? ⟨b,o+j,none⟩=some (.string t)) (hb:b<w.heap.size):
  Calls Tryd.prog 34 #[.slice (some ⟨b,o,none⟩) ts.length cap] w fun e w'=>e= .returned (.string ⟨(Pl.cat ts).toArray⟩)∧Below w.heap.size w w':=by
 have HC:=hide hcell;clear hcell;go_enter Tryd.func34,Tryd.ntmps34
 go_wp2
 go_loop [3,12] (fun n i=>∃k:Nat,k≤ts.length∧i= .int .i64 k∧n= .int .i64 (Pl.tot (ts.take k):Nat)) (fun _ i=>ts.length - (intOf i).toNat)
 case atStart=>exact ⟨0,Nat.zero_le _,rfl,rfl⟩
 case round=>
  obtain ⟨k,hk,rfl,rfl⟩:=hrel;by_cases hlt:k<ts.length
  ·obtain ⟨t,hkt⟩:∃t,ts[k]? =some t:=⟨_,List.getElem?_eq_getElem hlt⟩;have hc:=za HC k t hkt;have H1:=hide (Pl.tot_snoc ts k t hkt);have h1:=Pl.tot_le ts (k+1);have h2:Pl.tot (ts.take k)+t.size≤1000000000:=by have :=za H1;omega
   clear hkt h1;go_wp2
   go_round
   case rel=>exact ⟨k+1,by omega,by go_num,by rw [za H1];go_num⟩
   case measure=>simp [intOf];omega
  ·have HE:Hid (Pl.tot (ts.take k)=Pl.tot ts):=by
    show _=_;rw [List.take_of_length_le (by omega)]
   have hmk:=Mem.make_bytes (P:=Tryd.prog) Tryd.underlying119 Tryd.info8j (Pl.tot ts) ht w;rw [HE.out];go_wp2
   go_loopw [7,25] (fun p i wr=>∃ (k:Nat) (cur:Array Value),k≤ts.length∧i= .int .i64 k∧p= .int .i64 (Pl.tot (ts.take k):Nat)∧wr.heap[w.heap.size]? =some (.cells cur 5 (0,0))∧cur.size=Pl.tot ts∧
     Hid (cur.toList.take (Pl.tot (ts.take k))=(Pl.cat (ts.take k)).map Pl.zd6)∧Below w.heap.size w wr) (fun _ i _=>ts.length - (intOf i).toNat)
   case atStart=>exact ⟨0,Mem.zeros (Pl.tot ts),Nat.zero_le _,rfl,rfl,heap_alloc_new w _,Mem.zeros_size _,rfl,(Below.refl _ _).alloc (Nat.le_refl _) _⟩
   case round=>
    obtain ⟨k,cur,hk,rfl,rfl,hrow,hcs,HP,hbel⟩:=hrel;by_cases hlt:k<ts.length
    ·obtain ⟨t,hkt⟩:∃t,ts[k]? =some t:=⟨_,List.getElem?_eq_getElem hlt⟩;have hc:wr.cell? ⟨b,o+k,none⟩=some (.string t):=(hbel.cell (p:=⟨b,o+k,none⟩) hb).trans (za HC k t hkt);have H1:=hide (Pl.tot_snoc ts k t hkt);have h1:=Pl.tot_le ts (k+1);have h2:Pl.tot (ts.take k)+t.size≤Pl.tot ts:=by have :=za H1;omega
     have HS:=hide (Pl.part_step hkt HP.out);obtain ⟨D,w2,hsl,hcp,hrow2,hbel2⟩:=Mem.copy_on (P:=Tryd.prog) (sT:=9) Tryd.underlying119 Tryd.one8 wr w.heap.size (Pl.tot (ts.take k)) (Pl.tot ts) cur hrow hcs t h2;have HROW2:=hide hrow2;have HB2:=hide (hbel.trans hbel2)
     have hsz:Hid ((cur.toList.take (Pl.tot (ts.take k))++t.data.toList.map Pl.zd6++cur.toList.drop (Pl.tot (ts.take k)+t.size)).toArray.size=Pl.tot ts):=by
      show _=_;have :t.data.size=t.size:=rfl;simp [this]
      omega
     clear hkt h1 hrow hrow2 hbel2 hbel;go_wp2
     go_roundw
     case rel=>exact ⟨k+1,_,by omega,by go_num,by rw [za H1];go_num,HROW2,hsz,HS,HB2⟩
     case measure=>simp [intOf];omega
    ·have HE2:Hid (Pl.cat (ts.take k)=Pl.cat ts∧Pl.tot (ts.take k)=Pl.tot ts):=by
      show _∧_;rw [List.take_of_length_le (by omega)];exact ⟨rfl,rfl⟩
     have hp:cur.toList.take (Pl.tot ts)=(Pl.cat ts).map Pl.zd6:=by have :=HP.out;rwa [HE2.out.1,HE2.out.2] at this
     have hcv:=Mem.row_text (P:=Tryd.prog) (cap:=Pl.tot ts) Tryd.underlying119 Tryd.underlying5 Tryd.underlying9 (Pl.cat ts) (Pl.zu6 ts) hrow hp;clear hp hrow;go_wp2
     go_ret
     exact ⟨rfl,hbel⟩
end WJoin
end
section
open Go.RowKit
namespace Pl
def zb5 (ts:List ByteArray):Nat→List ByteArray
 |0=>[]
 |k+1=>zb5 ts k++(if k=0 then [] else [⟨#[47]⟩])++[ts.getD k ⟨#[]⟩]
theorem glueL_snoc (A:List (List UInt8)) (a:List UInt8):ze1 (A++[a])=ze1 A++(if A=[] then [] else [47])++a:=by
 by_cases h:A=[]
 ·subst h;rfl
 ·rw [glueL_append h (by simp),if_neg h];simp [ze1]
theorem yb8 (A B:List ByteArray):cat (A++B)=cat A++cat B:=by simp [cat]
theorem parts_cat (ts:List ByteArray):∀k,k≤ts.length→cat (zb5 ts k)=ze1 ((ts.take k).map by_):=by
 intro k
 induction k with
 |zero=>intro _;rfl
 |succ k ih=>
  intro hk;have hlt:k<ts.length:=by omega
  rw [zb5,yb8,yb8,ih (by omega),List.take_add_one,List.getElem?_eq_getElem hlt,Option.toList_some,List.map_append,List.map_cons,List.map_nil,glueL_snoc,cat_one];have h1:ts.getD k ⟨#[]⟩=ts[k]:=by simp [List.getD_eq_getElem?_getD,List.getElem?_eq_getElem hlt]
  rw [h1]
  have h2:cat (if k=0 then [] else [(⟨#[47]⟩:ByteArray)])=if (ts.take k).map by_=[] then [] else [47]:=by
   by_cases h0:k=0
   ·subst h0;rfl
   ·rw [if_neg h0,if_neg (by simp;exact ⟨h0,by intro e;subst e;simp at hlt⟩)];rfl
  rw [h2];rfl
theorem parts_glue (ts:List ByteArray):(⟨(cat (zb5 ts ts.length)).toArray⟩:ByteArray)=glue ts:=by
 rw [parts_cat ts _ (Nat.le_refl _),List.take_length];rfl
theorem parts_tot (ts:List ByteArray):tot (zb5 ts ts.length)=(glue ts).size:=by
 rw [←zu6,parts_cat ts _ (Nat.le_refl _),List.take_length,←zt5,zg6]
theorem parts_length (ts:List ByteArray):∀k,(zb5 ts k).length≤2*k:=by
 intro k
 induction k with
 |zero=>simp [zb5]
 |succ k ih=>
  rw [zb5];by_cases h:k=0
  ·simp [h,zb5]
  ·simp [h];omega
theorem parts_first {ts:List ByteArray} {t:ByteArray} (ht:ts[0]? =some t):zb5 ts 1=zb5 ts 0++[t]:=by
 simp [zb5,List.getD_eq_getElem?_getD,ht]
theorem parts_next {ts:List ByteArray} {k:Nat} {t:ByteArray} (hk:k≠0) (ht:ts[k]? =some t):zb5 ts (k+1)=(zb5 ts k++[⟨#[47]⟩])++[t]:=by
 simp [zb5,List.getD_eq_getElem?_getD,ht,hk]
end Pl
namespace WPathOf
theorem make12 (w:World):(Instr.makeSlice 67 (.int .i64 0) (.int .i64 12)).run Tryd.prog w= .ok (.slice (some ⟨w.heap.size,0,none⟩) 0 12) (w.alloc (.cells (madeCells (Value.string ⟨#[]⟩).cells 12) 9)):=by
 obtain ⟨i0,h0,h1,h2,h3⟩:=info_parts WWords.infoS;have h:=run_make (P:=Tryd.prog) w 67 9 i0 (.string ⟨#[]⟩) Tryd.underlying67 h0 h1 .i64 .i64 0 12 (by omega) (by omega) (by rw [h3];omega) (by omega);rw [h];simp [h2]

set_option maxRecDepth 100000 in
set_option maxHeartbeats 400000 in
theorem any (v:Value) (ts:List ByteArray) (w:World) (hn:ts.length≤1000) (hg:(Pl.glue ts).size≤1000000) (hv:Mem.zm w v ts):
  Calls Tryd.prog 54 #[v] w fun e w'=>e= .returned (.string (Pl.glue ts))∧Below w.heap.size w w':=by
 obtain ⟨i0,hi,hz0,hz1,hz2⟩:=info_parts WWords.infoS;have hmk:=make12;have H0:Hid ((⟨(Pl.cat (Pl.zb5 ts ts.length)).toArray⟩:ByteArray)=Pl.glue ts):=Pl.parts_glue ts;have H1:Hid (Pl.tot (Pl.zb5 ts ts.length)≤1000000000):=by have :=Pl.parts_tot ts;show _≤_;omega
 by_cases hts:ts=[]
 ·subst hts
  have hv2:∃a cap,v= .slice a 0 cap:=by
   rcases hv with ⟨rfl,_⟩|⟨b,o,cap,rfl,_⟩
   ·exact ⟨_,_,rfl⟩
   ·exact ⟨_,_,rfl⟩
  obtain ⟨a,cap,rfl⟩:=hv2;go_enter Tryd.func54,Tryd.ntmps54
  go_wp2
  go_loop [3,9] (fun p i=>p= .slice (some ⟨w.heap.size,0,none⟩) 0 12∧i= .int .i64 0) (fun _ _=>0)
  case atStart=>exact ⟨rfl,rfl⟩
  case round=>
   obtain ⟨rfl,rfl⟩:=hrel;go_wp2_with fail
   refine (WJoin.any w.heap.size 0 12 [] _ (by simp) (by simp [Pl.tot]) (fun j t h=>by simp at h) (by simp)).mono ?_;rintro e w1 ⟨rfl,hb1⟩;go_wp2
   go_ret
   exact ⟨rfl,((Below.refl _ _).alloc (Nat.le_refl _) _).trans (hb1.mono (by simp))⟩
 have hpos:0<ts.length:=List.length_pos_iff.2 hts
 have HNE:Hid (Pl.zb5 ts ts.length≠[]):=by
  intro h;obtain ⟨n,hn⟩:∃n,ts.length=n+1:=⟨ts.length - 1,by omega⟩;rw [hn,Pl.zb5] at h;simp at h
 rcases hv with ⟨rfl,rfl⟩|⟨b,o,cap,rfl,hb,hcell⟩
 ·exact absurd rfl hts
 ·have HC:=hide hcell;clear hcell;go_enter Tryd.func54,Tryd.ntmps54
  go_wp2
  go_loopw [3,9] (fun p i wr=>∃k:Nat,k≤ts.length∧i= .int .i64 (k:Int)∧wr.ownsRow w.heap.size 9 1 p (Pl.zb5 ts k).length ((Pl.zb5 ts k).map Value.string)∧Below w.heap.size w wr) (fun _ i _=>ts.length - (intOf i).toNat)
  case atStart=>exact ⟨0,Nat.zero_le _,rfl,World.ownsRow_made _ _ 12 (Nat.le_refl _) (by unfold maxLen;omega) (size_madeCells _ _),(Below.refl _ _).alloc (Nat.le_refl _) _⟩
  case round=>
   obtain ⟨k,hk,rfl,hown,hbel⟩:=hrel;have hb1:=hbel.size;have hpl:=Pl.parts_length ts k;by_cases hlt:k<ts.length
   ·obtain ⟨t,hkt⟩:∃t,ts[k]? =some t:=⟨_,List.getElem?_eq_getElem hlt⟩;have hc:wr.cell? ⟨b,o+k,none⟩=some (.string t):=(hbel.cell (p:=⟨b,o+k,none⟩) hb).trans (za HC k t hkt);by_cases h0:k=0
    ·have HS:Hid (Pl.zb5 ts (k+1)=Pl.zb5 ts k++[t]):=by subst h0;exact Pl.parts_first hkt
     have hp:¬ (0:Int)<(k:Int):=by omega
     clear hkt h0;go_wp2_with (at_builtin;refine wpList_append_own _ rfl _ _ 67 rfl w.heap.size 9 i0 (.string ⟨#[]⟩) 1 16 Tryd.underlying67 hi hz0 hz1 hz2 rfl (by decide) _ _ _ rfl (hown.alloc _) ⟨wr.heap.size,0,none⟩ 1 1 [.string t] rfl rfl (Mem.zo0 _ _ _) (Mem.one_str _) (by unfold maxLen;omega) (by omega) (by simp;omega) ?_)
     ·intro v' w2 hown' hgrow _;have hbel':=Mem.zg9 hbel (Nat.le_refl _) hown hgrow
      have hown2:Hid (w2.ownsRow w.heap.size 9 1 v' (Pl.zb5 ts (k+1)).length ((Pl.zb5 ts (k+1)).map Value.string)):=by
       show World.ownsRow _ _ _ _ _ _ _;rw [za HS];simpa using hown'
      clear hgrow hown hbel hown' hc;go_wp2
      go_roundw
      case rel=>exact ⟨k+1,by omega,by go_num,hown2,hbel'⟩
      case measure=>simp [intOf];omega
    ·have HS:=hide (Pl.parts_next h0 hkt);have hp:(0:Int)<(k:Int):=by omega
     clear hkt;go_wp2_with (at_builtin;refine wpList_append_own _ rfl _ _ 67 rfl w.heap.size 9 i0 (.string ⟨#[]⟩) 1 16 Tryd.underlying67 hi hz0 hz1 hz2 rfl (by decide) _ _ _ rfl (hown.alloc _) ⟨wr.heap.size,0,none⟩ 1 1 [.string ⟨#[47]⟩] rfl rfl (Mem.zo0 _ _ _) (Mem.one_str _) (by unfold maxLen;omega) (by omega) (by simp;omega) ?_)
     ·intro v1 w1 hown' hgrow _;have hbel':=Mem.zg9 hbel (Nat.le_refl _) hown hgrow;have hown1:w1.ownsRow w.heap.size 9 1 v1 (Pl.zb5 ts k++[(⟨#[47]⟩:ByteArray)]).length ((Pl.zb5 ts k++[(⟨#[47]⟩:ByteArray)]).map Value.string):=by simpa using hown'
      have hb2:=hbel'.size;have hl2:(Pl.zb5 ts k++[(⟨#[47]⟩:ByteArray)]).length≤2*k+1:=by simp;omega
      clear hgrow hown hbel hown' hc hpl;go_wp2_with (at_builtin;refine wpList_append_own _ rfl _ _ 67 rfl w.heap.size 9 i0 (.string ⟨#[]⟩) 1 16 Tryd.underlying67 hi hz0 hz1 hz2 rfl (by decide) _ _ _ rfl (hown1.alloc _) ⟨w1.heap.size,0,none⟩ 1 1 [.string t] rfl rfl (Mem.zo0 _ _ _) (Mem.one_str _) (by unfold maxLen;omega) (by omega) (by simp;omega) ?_)
      ·intro v' w2 hown' hgrow _;have hbel2:=Mem.zg9 hbel' (Nat.le_refl _) hown1 hgrow
       have hown2:Hid (w2.ownsRow w.heap.size 9 1 v' (Pl.zb5 ts (k+1)).length ((Pl.zb5 ts (k+1)).map Value.string)):=by
        show World.ownsRow _ _ _ _ _ _ _;rw [za HS];simpa using hown'
       clear hgrow hown1 hbel' hown';go_wp2
       go_roundw
       case rel=>exact ⟨k+1,by omega,by go_num,hown2,hbel2⟩
       case measure=>simp [intOf];omega
   ·obtain rfl:k=ts.length:=by omega
    rcases Mem.zo6 hown with ⟨rfl,hnil⟩|⟨g,o',cap',rfl,hgl,hcell'⟩
    ·exact absurd hnil HNE.out
    ·have HC':=hide hcell';clear hcell' hown;go_wp2_with fail
     refine (WJoin.any g o' cap' (Pl.zb5 ts ts.length) _ (by omega) H1.out HC'.out hgl).mono ?_;rintro e w1 ⟨rfl,hb1⟩;go_wp2
     go_ret
     exact ⟨by rw [H0.out];rfl,hbel.trans (hb1.mono (by omega))⟩
end WPathOf
end
section
open Go.RowKit
namespace zt4
set_option maxRecDepth 100000 in
set_option maxHeartbeats 4000000 in
theorem zv3 (s:ByteArray) (w:World) (hs:s.size≤1048576):
  Calls Tryd.prog 79 #[.string s] w fun e w'=>e= .returned (.string (Pl.glue (Pl.zb7 s).dropLast))∧Below w.heap.size w w':=by
 have hn:=hide (WNames.any s w hs);have hL:=hide (Pl.zq s);generalize Pl.za2 s=r at hn;generalize Pl.zb7 s=L at hn hL;go_enter Tryd.func79,Tryd.ntmps79
 go_wp2_with fail
 refine (za hn).mono ?_;rintro e w1 ⟨v,rfl,hown,hb⟩;clear hn
 rcases Mem.texts hown with ⟨rfl,rfl⟩|⟨g,cap,rfl,hcap,hm,hgb,hgl,hcell⟩
 ·clear hown;go_wp2_with fail
  refine (WPathOf.any _ [] _ (by simp) (by decide) (.inl ⟨rfl,rfl⟩)).mono ?_;rintro e w2 ⟨rfl,hb2⟩;have hb3:=hb.trans (hb2.mono hb.size);clear hb hb2;go_wp2
  go_ret
  exact ⟨rfl,hb3⟩
 ·clear hown;have hm2:=hm;have HC:=hide hcell;clear hcell;unfold maxLen at hm2;by_cases h0:L.length=0
  ·obtain rfl:L=[]:=List.eq_nil_of_length_eq_zero h0;have m0:max (-1:Int) 0=0:=by decide
   go_wp2_with fail
   refine (WPathOf.any _ [] _ (by simp) (by decide) (.inr ⟨g,0,cap,rfl,hgl,fun j t h=>by simp at h⟩)).mono ?_;rintro e w2 ⟨rfl,hb2⟩;have hb3:=hb.trans (hb2.mono hb.size);clear hb hb2;go_wp2
   go_ret
   exact ⟨rfl,hb3⟩
  ·have h1:(0:Int)≤(L.length:Int) - 1:=by omega
   have m1:max ((L.length:Int) - 1) 0=(L.length:Int) - 1:=by omega
   have h2:(L.length:Int) - 1≤(cap:Int):=by omega
   have E:=hide (Pl.drop_last L);go_wp2_with fail
   try rw [show (max ((L.length:Int) - 1) 0).toNat=L.length - 1 by omega]
   refine (WPathOf.any _ (L.take (L.length - 1)) _ ?_ (Pl.glue_small (Pl.all_take (za hL).1 _) ?_) (Mem.take_texts hgl (za HC) _ (by omega))).mono ?_
   ·have :=(za hL).2;simp;omega
   ·have :=(za hL).2;simp;omega
   rintro e w2 ⟨rfl,hb2⟩;rw [za E];have hb3:=hb.trans (hb2.mono hb.size);clear hb hb2;go_wp2
   go_ret
   exact ⟨rfl,hb3⟩
end zt4
end
end Go.Proofs.YtpakookhgpphaaaDoor
