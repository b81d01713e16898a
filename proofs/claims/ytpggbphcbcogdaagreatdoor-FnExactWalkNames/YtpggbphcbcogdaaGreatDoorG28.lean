/- Several texts of one claim in one file: WMk1, WMarks, WMarkU, WWnQ. -/
import Derived.Test.YtpggbphcbcogdaaGreatDoorWWnA
namespace Go.Proofs.YtpggbphcbcogdaaGreatDoor
section
open Go.RowKit
namespace Pl
def decF:Nat→Nat→List UInt8→List UInt8
 |0,_,out=>out
 |f+1,k,out=>if k=0 then out else decF f (k / 10) (UInt8.ofNat (48+k % 10)::out)
theorem decF_zero (f:Nat) (out:List UInt8):decF f 0 out=out:=by cases f <;> simp [decF]
theorem decF_step {f k:Nat} (h:0<k) (out:List UInt8):decF (f+1) k out=decF f (k / 10) (UInt8.ofNat (48+k % 10)::out):=by
 rw [decF,if_neg (by omega)]
def mark (k:Nat):ByteArray:=⟨(109::decF k k []).toArray⟩
def marks (k:Nat):Nat→List ByteArray
 |0=>[]
 |n+1=>marks k n++[mark (k+n)]
theorem zh5 (k n:Nat):(marks k n).length=n:=by
 induction n with
 |zero=>rfl
 |succ n ih=>rw [marks,List.length_append,ih];rfl
theorem marks_get (k:Nat):∀n j,j<n→(marks k n)[j]? =some (mark (k+j)):=by
 intro n
 induction n with
 |zero=>intro j h;omega
 |succ n ih=>
  intro j h;rw [marks];by_cases hj:j<n
  ·rw [List.getElem?_append_left (by rw [zh5];exact hj)];exact ih j hj
  ·obtain rfl:j=n:=by omega
   rw [List.getElem?_append_right (by rw [zh5];exact Nat.le_refl _),zh5,Nat.sub_self];rfl
end Pl
namespace zo3
set_option maxRecDepth 100000 in
set_option maxHeartbeats 400000 in
theorem zm6 (K:Nat) (w:World) (h0:0<K) (hK:K≤9000000000000000000):
  Calls Tryz.prog 27 #[.int .i64 (K:Int)] w fun e w'=>e= .returned (.string (Pl.mark K))∧Below w.heap.size w w':=by
 have p1:¬ (K:Int)≤0:=by omega
 go_enter Tryz.func27,Tryz.ntmps27
 go_wp2
 go_loopw [0,3] (fun a o wr=>∃ (f k:Nat) (out:List UInt8),k≤f∧out.length+k≤K∧a= .int .i64 (k:Int)∧o= .string ⟨out.toArray⟩∧Below w.heap.size w wr∧Hid (Pl.decF f k out=Pl.decF K K [])) (fun a _ _=>(intOf a).toNat)
 case atStart=>exact ⟨K,K,[],Nat.le_refl _,by simp,rfl,rfl,Below.refl _ _,rfl⟩
 case round=>
  obtain ⟨f,k,out,hf,hk,rfl,rfl,hbel,HD⟩:=hrel;have hsz:=hbel.size;have ho:¬9223372036854775807<1+out.length:=by omega
  by_cases hk0:0<k
  ·obtain ⟨f,rfl⟩:∃g,f=g+1:=⟨f - 1,by omega⟩;have HD2:Hid (Pl.decF f (k / 10) (UInt8.ofNat (48+k % 10)::out)=Pl.decF K K []):=(Pl.decF_step hk0 out).symm.trans HD.out;have p2:(0:Int)<(k:Int):=by omega
   clear HD
   have hb:((UInt8.ofNat (48+k % 10)).toNat:Int)=48+(k:Int) % 10:=by
    rw [UInt8.toNat_ofNat_of_lt' (by show 48+k % 10<256;omega)];omega
   have hcv:=Mem.row_text (P:=Tryz.prog) (w:=wr.alloc (.cells #[.int .u8 (48+(k:Int) % 10)] 5)) (n:=1) (cap:=1) Tryz.underlying96 Tryz.underlying5 Tryz.underlying9 [UInt8.ofNat (48+k % 10)] rfl (heap_alloc_new wr _) (by simp only [List.map_cons,List.map_nil,Pl.zd3,hb];rfl)
   have HX:Hid ((⟨[UInt8.ofNat (48+k % 10)].toArray⟩:ByteArray)++(⟨out.toArray⟩:ByteArray)=⟨(UInt8.ofNat (48+k % 10)::out).toArray⟩):=by
    show _=_;rw [Pl.zx6];rfl
   have hbel2:=hbel.alloc hsz (.cells #[.int .u8 (48+(k:Int) % 10)] 5);generalize UInt8.ofNat (48+k % 10)=b at hcv HX HD2;clear hb;go_wp2
   go_roundw
   case rel=>exact ⟨f,k / 10,b::out,by omega,by simp;omega,by go_num,congrArg Value.string HX.out,hbel2,HD2⟩
   case measure=>simp [intOf];omega
  ·have HD2:Hid (out=Pl.decF K K []):=by
    obtain rfl:k=0:=by omega
    exact (Pl.decF_zero f out).symm.trans HD.out
   have p2:¬ (0:Int)<(k:Int):=by omega
   have HX:Hid ((⟨#[109]⟩:ByteArray)++(⟨out.toArray⟩:ByteArray)=Pl.mark K):=by
    show _=_;rw [Pl.mark,←HD2.out];exact Pl.zx6 [109] ⟨out.toArray⟩
   clear HD;go_wp2
   go_ret
   exact ⟨congrArg (fun x=>Ending.returned (.string x)) HX.out,hbel⟩
end zo3
end
section
open Go.RowKit
namespace zo3
set_option maxRecDepth 100000 in
set_option maxHeartbeats 400000 in
theorem eq_any (v u:Value) (A:List ByteArray) (w:World) (hA:A.length≤1000) (hv:Mem.ze5 w v A) (hu:Mem.ze5 w u A):
  Calls Tryz.prog 8 #[v,u] w fun e w'=>e= .returned (.bool true)∧Below w.heap.size w w':=by
 obtain ⟨va,vc,rfl⟩:=Mem.zh0 hv;obtain ⟨ua,uc,rfl⟩:=Mem.zh0 hu
 have HCA:Hid (∀ (k:Nat) x,A[k]? =some x→∃b o,va=some ⟨b,o,none⟩∧b<w.heap.size∧w.cell? ⟨b,o+k,none⟩=some (.string x)):=fun k x hx=>by
  rcases hv with ⟨_,rfl⟩|⟨b,o,cap,h1,h2,h3⟩
  ·simp at hx
  ·cases h1;exact ⟨b,o,rfl,h2,h3 k x hx⟩
 have HCB:Hid (∀ (k:Nat) x,A[k]? =some x→∃b o,ua=some ⟨b,o,none⟩∧b<w.heap.size∧w.cell? ⟨b,o+k,none⟩=some (.string x)):=fun k x hx=>by
  rcases hu with ⟨_,rfl⟩|⟨b,o,cap,h1,h2,h3⟩
  ·simp at hx
  ·cases h1;exact ⟨b,o,rfl,h2,h3 k x hx⟩
 clear hv hu;go_enter Tryz.func8,Tryz.ntmps8
 go_wp2
 go_loopw [5] (fun i wr=>∃k:Nat,k≤A.length∧i= .int .i64 (k:Int)∧Below w.heap.size w wr) (fun i _=>A.length - (intOf i).toNat)
 case atStart=>exact ⟨0,Nat.zero_le _,rfl,Below.refl _ _⟩
 case round=>
  obtain ⟨k,hk,rfl,hbel⟩:=hrel;by_cases hlt:k<A.length
  ·obtain ⟨x,hx⟩:∃x,A[k]? =some x:=⟨_,List.getElem?_eq_getElem (by omega)⟩;obtain ⟨b,o,rfl,hb,hcb⟩:=HCB.out k x hx;obtain ⟨b',o',rfl,hb',hca⟩:=HCA.out k x hx;have hc1:wr.cell? ⟨b,o+k,none⟩=some (.string x):=(hbel.cell (p:=⟨b,o+k,none⟩) hb).trans hcb;have hc2:wr.cell? ⟨b',o'+k,none⟩=some (.string x):=(hbel.cell (p:=⟨b',o'+k,none⟩) hb').trans hca;have u1:(k:Int)<(A.length:Int):=by omega
   have u3:(0:Int)≤(k:Int):=by omega
   clear hcb hca hx HCA HCB;go_wp2
   go_quiet (fail)
   go_wp2
   go_roundw
   case rel=>exact ⟨k+1,by omega,by go_num,Mem.below_drewN hbel _⟩
   case measure=>simp [intOf];omega
  ·go_wp2
   go_ret
   exact ⟨rfl,hbel⟩

set_option maxRecDepth 100000 in
set_option maxHeartbeats 400000 in
theorem lay_any (B g n cap K:Nat) (xs:List Value) (w:World) (hn:n≤1000) (hK:0<K) (hK2:K≤1000) (hown:w.ownsRow B 9 1 (.slice (some ⟨g,0,none⟩) n cap) n xs):
  Calls Tryz.prog 11 #[.slice (some ⟨g,0,none⟩) n cap, .int .i64 (K:Int)] w fun e w'=>e= .returned (.int .i64 ((K+n:Nat):Int))∧
   w'.ownsRow B 9 1 (.slice (some ⟨g,0,none⟩) n cap) n ((Pl.marks K n).map Value.string)∧w.grownBy w' (some g):=by
 have hlt0:=hown.lt g rfl;go_enter Tryz.func11,Tryz.ntmps11
 go_wp2
 go_loopw [1,5] (fun a i wr=>∃ (k:Nat) (ys:List Value),k≤n∧i= .int .i64 (k:Int)∧a= .int .i64 ((K+k:Nat):Int)∧wr.ownsRow B 9 1 (.slice (some ⟨g,0,none⟩) n cap) n ys∧w.grownBy wr (some g)∧
   Hid (ys.take k=(Pl.marks K k).map Value.string)) (fun _ i _=>n - (intOf i).toNat)
 case atStart=>exact ⟨0,xs,Nat.zero_le _,rfl,rfl,hown,⟨rfl,rfl,rfl,Nat.le_refl _,fun _ _ _=>rfl⟩,rfl⟩
 case round=>
  obtain ⟨k,ys,hk,rfl,rfl,hown1,hgr,HX⟩:=hrel;have hsz:=hgr.size;have hyl:ys.length=n:=by have :=hown1.1;omega
  by_cases hlt:k<n
  ·have u1:(k:Int)<(n:Int):=by omega
   have HM:=hide (fun W=>zm6 (K+k) W (by omega) (by omega))
   have HM2:Hid ((Pl.marks K (k+1)).map Value.string=(Pl.marks K k).map Value.string++[Value.string (Pl.mark (K+k))]):=by
    show _=_;rw [Pl.marks,List.map_append];rfl
   generalize Pl.mark (K+k)=t at HM HM2;go_wp2_with fail
   refine (za HM _).mono ?_;rintro e w2 ⟨rfl,hb2⟩;have hown2:=Mem.zc8 hown1 hb2;obtain ⟨hown3,hgr3⟩:=hown2.stored k (.string t)
   have hce:w2.cell? ⟨g,k,none⟩=some ys[k]:=by
    rw [hown2.cellAt k (by omega),List.getElem?_eq_getElem (by omega)]
   have hfr:=hown2.frozenAt k
   have hgr4:w.grownBy (w2.setCell ⟨g,k,none⟩ (.string t)) (some g):=
    ⟨hgr3.os.trans (hb2.os.trans hgr.os),hgr3.tape.trans (hb2.tape.trans hgr.tape),hgr3.output.trans (hb2.output.trans hgr.output),Nat.le_trans hsz (Nat.le_trans hb2.size hgr3.size),
     fun j hj hne=>(hgr3.block j (by have :=hb2.size;omega) hne).trans ((hb2.block j (by omega)).trans (hgr.block j hj hne))⟩
   have H3:Hid ((ys.set k (.string t)).take (k+1)=(Pl.marks K (k+1)).map Value.string):=by
    show _=_;rw [za HM2,←HX.out,List.take_add_one,List.take_set_of_le (by omega),List.getElem?_set_self (by omega)];rfl
   have HO3:=hide hown3;have HG4:=hide hgr4;clear hown1 hown2 hb2 hgr hgr3 HX hown3 hgr4 HM HM2;go_wp2
   go_roundw
   case rel=>exact ⟨k+1,_,by omega,by go_num,by go_num,za HO3,za HG4,H3⟩
   case measure=>simp [intOf];omega
  ·obtain rfl:k=n:=by omega
   have H2:Hid (ys=(Pl.marks K k).map Value.string):=by
    show _=_;have h1:=HX.out
    rwa [List.take_of_length_le (by omega)] at h1
   have HO:=hide hown1;have HG:=hide hgr;clear hown1 hgr;go_wp2
   go_ret
   exact ⟨rfl,by rw [←za H2];exact za HO,za HG⟩

set_option maxRecDepth 100000 in
set_option maxHeartbeats 400000 in
theorem held_any (v:Value) (n K:Nat) (w:World) (hn:n≤1000) (hK:0<K) (hK2:K≤1000) (hv:Mem.ze5 w v (Pl.marks K n)):
  Calls Tryz.prog 12 #[v, .int .i64 (K:Int)] w fun e w'=>e= .returned (.int .i64 ((K+n:Nat):Int))∧Below w.heap.size w w':=by
 have hsh:=Mem.zh0 hv;rw [Pl.zh5] at hsh;obtain ⟨va,vc,rfl⟩:=hsh
 have HCA:Hid (∀ (k:Nat),k<n→∃b o,va=some ⟨b,o,none⟩∧b<w.heap.size∧w.cell? ⟨b,o+k,none⟩=some (.string (Pl.mark (K+k)))):=fun k hk=>by
  have hx:=Pl.marks_get K n k hk
  rcases hv with ⟨_,h0⟩|⟨b,o,cap,h1,h2,h3⟩
  ·rw [h0] at hx;simp at hx
  ·rw [Pl.zh5] at h1;cases h1;exact ⟨b,o,rfl,h2,h3 k _ hx⟩
 clear hv;go_enter Tryz.func12,Tryz.ntmps12
 go_wp2
 go_loopw [1,5] (fun a i wr=>∃ (k:Nat),k≤n∧i= .int .i64 (k:Int)∧a= .int .i64 ((K+k:Nat):Int)∧Below w.heap.size w wr) (fun _ i _=>n - (intOf i).toNat)
 case atStart=>exact ⟨0,Nat.zero_le _,rfl,rfl,Below.refl _ _⟩
 case round=>
  obtain ⟨k,hk,rfl,rfl,hbel⟩:=hrel;have hsz:=hbel.size;by_cases hlt:k<n
  ·have u1:(k:Int)<(n:Int):=by omega
   have u3:(0:Int)≤(k:Int):=by omega
   have HM:=hide (fun W=>zm6 (K+k) W (by omega) (by omega));obtain ⟨b,o,rfl,hb,hca⟩:=HCA.out k hlt;have hc:wr.cell? ⟨b,o+k,none⟩=some (.string (Pl.mark (K+k))):=(hbel.cell (p:=⟨b,o+k,none⟩) hb).trans hca;have hbr:b<wr.heap.size:=by omega
   generalize Pl.mark (K+k)=t at HM hc hca;clear hca HCA;go_wp2
   go_region_held3 (fun w'=>w'.cell? ⟨b,o+k,none⟩=some (.string t)) (first |(go_keep;done)|exact (b2.cell (p:=⟨b,o+k,none⟩) (by simpa using hbr)).trans (by simpa using hc)) ((go_at_call 27;refine (za HM _).mono ?_;rintro e w' ⟨rfl,b2⟩))
   have hbel2:Below w.heap.size w w':=hbel.drew.trans (b2.mono hsz);clear b2 hbel HM;go_wp2
   go_roundw
   case rel=>exact ⟨k+1,by omega,by go_num,by go_num,hbel2⟩
   case measure=>simp [intOf];omega
  ·obtain rfl:k=n:=by omega
   go_wp2
   go_ret
   exact ⟨rfl,hbel⟩
end zo3
end
section
open Go.RowKit
namespace zf0
set_option maxRecDepth 100000 in
theorem layNil (K:Nat) (w:World):Calls Tryz.prog 11 #[.slice none 0 0, .int .i64 (K:Int)] w fun e w'=>e= .returned (.int .i64 (K:Int))∧Below w.heap.size w w':=by
 go_enter Tryz.func11,Tryz.ntmps11
 go_wp2
 refine wp_loop_rounds 1 ?_;rw [rounds_succ];go_wp2
 go_ret
 exact ⟨rfl,Below.refl _ _⟩
theorem lay_own (v:Value) (n B:Nat) (xs:List Value) (w:World) (hn:n≤1000) (h:w.ownsRow B 9 1 v n xs):
  Calls Tryz.prog 11 #[v, .int .i64 ((1:Nat):Int)] w fun e w'=>e= .returned (.int .i64 ((1+n:Nat):Int))∧Mem.ze5 w' v (Pl.marks 1 n)∧w.grownBy w' v.ownBlock:=by
 rcases h.2 with ⟨rfl,h0⟩|⟨g,cap,cur,rfl,_⟩
 ·subst h0;refine (layNil 1 w).mono fun e w' ⟨he,b⟩=>⟨he,?_,Mem.za4 b _⟩;exact .inl ⟨rfl,rfl⟩
 ·exact (zo3.lay_any B g n cap 1 xs w hn (by omega) (by omega) h).mono fun e w' ⟨he,ho,hg⟩=>⟨he,Mem.own_textsN ho (Pl.zh5 1 n),hg⟩
def Own (w:World) (B:Nat) (v:Value) (K:List ByteArray):Prop:=w.ownsRow B 9 1 v K.length (K.map Value.string)
theorem Own.call {w w':World} {B:Nat} {v:Value} {K:List ByteArray} (h:Own w B v K) (b:Below w.heap.size w w'):Own w' B v K:=Mem.zc8 h b
theorem Own.lt {w:World} {B:Nat} {v:Value} {K:List ByteArray} (h:Own w B v K):∀g,v.ownBlock=some g→B≤g∧g<w.heap.size:=fun g hg=>World.ownsRow.lt h g hg
theorem Own.grown {w w':World} {B:Nat} {v:Value} {K:List ByteArray} {r:Option Nat} (h:Own w B v K) (hg:w.grownBy w' r) (hr:∀g,v.ownBlock=some g→some g≠r):Own w' B v K:=by
 refine ⟨h.1,?_⟩
 rcases h.2 with h0|⟨g,cap,cur,rfl,hb,hh,rest⟩
 ·exact .inl h0
 ·exact .inr ⟨g,cap,cur,rfl,hb,(hg.block g (Array.getElem?_eq_some_iff.1 hh).1 (hr g rfl)).trans hh,rest⟩
theorem Own.texts {w:World} {B:Nat} {v:Value} {K:List ByteArray} (h:Own w B v K):Mem.ze5 w v K:=Mem.ze4 h
end zf0
end
section
open Go.RowKit Go.Shelf Go.Maps
attribute [local go_sem] Oper.semAt_some
namespace Rng
def Cs (D:Nat) (W:World) (j:Nat):Prop:=D≤j∧j<W.heap.size∧(j=D∨∀cur T fz,W.heap[j]? =some (.cells cur T fz)→T=9)
theorem cs_good {w0:World} {D:Nat} (h:w0.heap.size≤D):Good w0 (D+1) (Cs D):=by
 refine ⟨fun W W' row hB g hr j hj=>?_,fun W hB j hj=>⟨Nat.le_trans h hj.1,hj.2.1⟩,fun W y cs T hB hb hT hc=>?_⟩
 ·by_cases hlt:j<W.heap.size
  ·refine .inl ⟨hj.1,hlt,?_⟩
   rcases hj.2.2 with e|e
   ·exact .inl e
   ·refine .inr (fun cur T fz ho=>?_);by_cases hjr:row=some j
    ·obtain ⟨o,h1,h2⟩:=hr j hjr;rw [ho] at h1;cases h1
     cases h2
    ·exact e cur T fz ((g.block j hlt (fun e2=>hjr e2.symm)).trans ho)
  ·exact .inr (by omega)
 ·rcases hc.2.2 with e|e
  ·omega
  ·exact hT (e cs T (0,0) hb)
theorem cs_kq {D:Nat} {R:Nat→Prop} {W W':World} {row:Option Nat} (g:W.grownBy W' row) (hr:∀r,row=some r→Cs D W r∧∃o:Obj,W.heap[r]? =some o∧o.isCells=true):Kq (Cs D) R W W':=by
 refine ⟨g.size,fun j o hj hc hn=>?_,fun j hj=>?_⟩
 ·refine (g.block j (Array.getElem?_eq_some_iff.1 hj).1 (fun e=>?_)).trans hj;obtain ⟨h1,o',h2,h3⟩:=hr j e.symm;rw [hj] at h2;cases h2
  exact hc h3 h1
 ·by_cases hlt:j<W.heap.size
  ·by_cases hjr:row=some j
   ·exact .inl (hr j hjr).1
   ·refine .inl ⟨hj.1,hlt,?_⟩
    rcases hj.2.2 with e|e
    ·exact .inl e
    ·exact .inr (fun cur T fz ho=>e cur T fz ((g.block j hlt (fun e2=>hjr e2.symm)).trans ho))
  ·exact .inr (by omega)
theorem zu6 {W:World} {B:Nat} {v:Value} {K:List ByteArray} (h:zf0.Own W B v K):∀g,v.ownBlock=some g→∃cur,W.heap[g]? =some (.cells cur 9 (0,0)):=fun g hg=>by
 rcases h.2 with ⟨rfl,_⟩|⟨g',cap,cur,rfl,_,hh,_⟩
 ·cases hg
 ·cases hg;exact ⟨cur,hh⟩
def Aq (w:World) (D:Nat) (ys:List ByteArray) (W:World):Prop:=∃v,Below w.heap.size w W∧Mem.Blk W D #[v] 24∧zf0.Own W (D+1) v ys
theorem Aq.grown {w W W':World} {D:Nat} {ys:List ByteArray} {row:Option Nat} (h:Aq w D ys W) (hD:w.heap.size≤D) (g:W.grownBy W' row) (hr:∀r,row=some r→D≤r∧∃o:Obj,W.heap[r]? =some o∧o.isCells=false):Aq w D ys W':=by
 obtain ⟨v,h1,h2,h3⟩:=h;refine ⟨v,h1.grown g h1.size (fun r e=>by have :=(hr r e).1;omega),zq3 h2 g (fun r e=>(hr r e).2),h3.grown g (fun q hq e=>?_)⟩;obtain ⟨o,ho,hc⟩:=(hr q e.symm).2;obtain ⟨cur,hh⟩:=zu6 h3 q hq;rw [hh] at ho;cases ho
 cases hc
set_option linter.unusedSimpArgs false in
set_option maxRecDepth 100000 in
set_option maxHeartbeats 4000000 in
theorem append_names (w0:World) (L:List Pl.Nd) (K:Pl.Fx) (qm:Nat) (a:Option Addr) (cap:Nat) (q:ByteArray) (nb pb:Nat) (w:World) (h0:w0.heap.size≤w.heap.size)
  (hx:(Pl.Fx.cons L K .nil).okX) (hm:Mem.ownM w0 qm L) (hl:Mem.layX w0 (fun j=>j<w0.heap.size) K (.slice a K.len cap)) (hk:Keep w0 w) (hnb:Mem.Blk w nb #[.map (some qm), .int .i64 (K.len:Int), .slice a K.len cap] 62) (hpb:Mem.Blk w pb #[.string q] 9) (h12:(Pl.za7 (.cons L K .nil)).length≤12):
  Calls Tryz.prog 88 #[.slice none 0 0, .func (.func 57) #[] #[.pointer (some ⟨nb,0,none⟩), .pointer (some ⟨pb,0,none⟩)]] w fun e w'=>∃v ys,e= .returned v∧(∀t,t∈ys↔∃M∈Pl.za7 (.cons L K .nil),t∈Pl.za6 q M)∧ys.length≤480∧zf0.Own w' w.heap.size v ys∧Below w.heap.size w w':=by
 obtain ⟨i0,hi,hz0,hz1,hz2⟩:=info_parts zj0.zk5;have b1:Below w.heap.size w (w.alloc (.cells #[.slice none 0 0] 24)):=(Below.refl _ _).alloc (Nat.le_refl _) _;have z1:(w.alloc (.cells #[.slice none 0 0] 24)).heap.size=w.heap.size+1:=by simp
 have A1:Hid (Aq w w.heap.size [] (w.alloc (.cells #[.slice none 0 0] 24))):=hide ⟨_,b1,Mem.Blk.new _ _ _,rfl, .inl ⟨rfl,rfl⟩⟩;have SQ:=hide (names_ok w0 (Cs w.heap.size) (w.heap.size+1) (cs_good h0) 4 (fun j=>False∨j=(w.alloc (.cells #[.slice none 0 0] 24)).heap.size+1) L K qm a cap q nb pb (w.alloc (.cells #[.slice none 0 0] 24)) (by rw [z1];exact Nat.le_refl _) (fun j h=>by rcases h with h|h;exact h.elim;rw [z1] at h;omega) hx hm hl (hk.trans (Keep.of_below b1)) (hnb.call b1) (hpb.call b1) (fun W hW hc=>by have :=hpb.lt;have :=hc.1;omega));clear hx hm hl hk hnb hpb b1;refine (callsIn_wide (n:=5)).1 ?_;refine callsIn_of_wp_marks Tryz.func88 rfl trivial ?_ rfl
 simp only [Tryz.ntmps88,List.size_toArray,List.length_cons,List.length_nil,Nat.reduceAdd,Nat.reduceSub,Array.replicate_succ,Array.replicate_zero,List.push_toArray,List.append_toArray,List.nil_append,List.cons_append]
 gi_wp2_with fail
 generalize w.alloc (.cells #[.slice none 0 0] 24)=w1 at A1 SQ z1 ⊢
 refine range rfl (fun h=>(by cases h)) (gf:=57) (lb:=#[.pointer (some ⟨nb,0,none⟩), .pointer (some ⟨pb,0,none⟩)]) rfl trivial (enters_of Tryz.func57 (by kernel_rfl) rfl) (C:=Cs w.heap.size) (R:=fun _=>False) (za SQ) (Below.refl _ _) (fun _=>rfl) (by rw [z1];exact (cs_good h0).step) (fun j h=>h.elim)
  (fun ys W=>Aq w w.heap.size ys W∧ys.length≤480)
  (fun _ _ _=>False)
  (fun xs A A' row h g hr=>⟨h.1.grown (Nat.le_refl _) g (fun r e=>⟨by have :=(hr r e).1;omega,(hr r e).2⟩),h.2⟩)
  (fun c xs A A' row h g hr=>h)
  ⟨za A1,Nat.zero_le _⟩
  (fun x a'' _=>a''={ tmps:=#[.slice none 0 0, .func (.func 57) #[] #[.pointer (some ⟨nb,0,none⟩), .pointer (some ⟨pb,0,none⟩)], .pointer (some ⟨w.heap.size,0,none⟩),undef, .slice none 0 0, .string x, .func (.func 57) #[] #[.pointer (some ⟨nb,0,none⟩), .pointer (some ⟨pb,0,none⟩)], .string x,undef,undef,undef,undef,undef],defers:=[] })
  (fun x a'' _ A A' row h g hr=>h) ?assign ?body ?done ?stop
 case assign=>
  intro l' xs x W'' Kz hI hz hK
  gi_wp2
  exact hK _ _ (Kq.refl _ _ _) hI rfl
 case body=>
  rintro l' xs x a'' W'' hI rfl hlen hz;obtain ⟨⟨v,i1,i2,i3⟩,i4⟩:=hI;have hxl:(xs++[x]).length≤480:=by rw [List.length_append,List.length_singleton];omega
  have d0:=i2.cell 0;have f0:=i2.fr 0;simp only [kA0,kA1] at d0;have HI:=hide (⟨i1,i2,i3⟩:_∧_∧_);have hsz:w.heap.size+1≤W''.heap.size:=by omega
  clear i1 i2 i3
  gi_wp2_with (gi_at_builtin;refine wpListIn_append_own _ rfl _ _ 24 rfl (w.heap.size+1) 9 i0 (.string ⟨#[]⟩) 1 16 Tryz.underlying24 hi hz0 hz1 hz2 rfl (by decide) _ _ _ rfl ((za HI).2.2.alloc _) ⟨W''.heap.size,0,none⟩ 1 1 [.string x] rfl rfl (Mem.zd0 _ _ _) (fun u hu=>by simp at hu;subst hu;rfl) (by unfold maxLen;omega) (by omega) (by simp;omega) ?_)
  intro v' wZ hown hgrow _
  obtain ⟨sa,sn,sc,rfl⟩:∃sa sn sc,v'= .slice sa sn sc:=by
   rcases hown.2 with ⟨rfl,_⟩|⟨g',cap',cur,rfl,_⟩
   ·exact ⟨_,_,_,rfl⟩
   ·exact ⟨_,_,_,rfl⟩
  have g1:W''.grownBy (W''.alloc (.cells #[.string x] 9)) none:=World.grownBy_alloc _ _ _;have B1:=(za HI).2.1.alloc (.cells #[.string x] 9);have O1:zf0.Own (W''.alloc (.cells #[.string x] 9)) (w.heap.size+1) v xs:=(za HI).2.2.alloc _;have b1:=(za HI).1.alloc (za HI).1.size (.cells #[.string x] 9);have BZ:=B1.grown hgrow (fun e=>by have :=(O1.lt _ e.symm).1;omega);have bZ:=b1.grown hgrow b1.size (fun r e=>by have :=(O1.lt _ e).1;omega);have OZ:zf0.Own wZ (w.heap.size+1) (.slice sa sn sc) (xs++[x]):=zj0.own_snoc hown;have g3:wZ.grownBy (wZ.setCell ⟨w.heap.size,0,none⟩ (.slice sa sn sc)) (some w.heap.size):=grownBy_setCell' _ _ _;have B3:=BZ.put 0 (.slice sa sn sc);simp only [kB3,kB4] at B3;have O3:=OZ.grown g3 (fun g e h=>by have :=(OZ.lt g e).1;cases h;omega)
  have b3:=bZ.setCell (Nat.le_refl _) (.slice sa sn sc) (p:=⟨w.heap.size,0,none⟩);have c3:=BZ.cell 0;have f3:=BZ.fr 0;simp only [kA0,kA1] at c3
  have KQ:=hide ((cs_kq (D:=w.heap.size) (R:=fun _=>False) g1 (fun r e=>by cases e)).trans ((cs_kq hgrow (fun r e=>by
   obtain ⟨cur,hh⟩:=zu6 O1 r e;have h5:=O1.lt r e
   exact ⟨⟨by omega,h5.2, .inr (fun cur' T fz ho=>by rw [hh] at ho;cases ho;rfl)⟩,_,hh,rfl⟩)).trans (cs_kq g3 (fun r e=>by
   cases e
   exact ⟨⟨Nat.le_refl _,BZ.lt, .inl rfl⟩,_,BZ,rfl⟩))))
  have AQ:=hide (⟨⟨(.slice sa sn sc),b3,B3,O3⟩,hxl⟩:Aq w w.heap.size (xs++[x]) _∧_);clear g1 B1 O1 b1 BZ bZ OZ g3 B3 O3 b3 HI hown hgrow hxl d0 f0
  gi_wp2
  exact ⟨za KQ,za AQ⟩
 case done=>
  rintro D xs W hD hS hI hK;obtain ⟨⟨v,i1,i2,i3⟩,i4⟩:=hI;have d0:=i2.cell 0;simp only [kA0,kA1] at d0;have HI:=hide (⟨i1,i3⟩:_∧_);have HS:=hide hS;clear i1 i2 i3 hS
  gi_wp2
  refine ⟨by simp, .inl ⟨_,_,rfl,run_takeDeferred hK,?_⟩⟩;refine ⟨_,results_tmp rfl _ _ _,v,xs,rfl,za HS,i4,?_,(za HI).1.grown (grownBy_putObj' _ _ _) (za HI).1.size (fun r e=>by cases e;omega)⟩;refine Mem.zf9 ((za HI).2.grown (grownBy_putObj' _ _ _) (fun g e h=>?_)) (by omega);cases h
  obtain ⟨cur,hh⟩:=zu6 (za HI).2 _ e;rw [hK] at hh;cases hh
 case stop=>
  rintro D c xs W _ _ h _;exact h.elim
end Rng
end
end Go.Proofs.YtpggbphcbcogdaaGreatDoor
