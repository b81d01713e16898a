/- Several texts of one claim in one file: WSpI7, OkSpace. -/
import Derived.Test.YtgdjjncmocppeaaGreatDoorG33
namespace Go.Proofs.YtgdjjncmocppeaaGreatDoor
section
open Go.RowKit Go.Maps
namespace WSpI
def Insted (w:World) (N:List Pl.Ns) (RB:Bool) (e:Ending) (w':World):Prop:=
 (RB=true∧∃q E,e= .returned (.tuple #[.map (some q), .bool true])∧w.heap.size≤q∧E.map (·.1)=N.map (·.d)∧w'.ownsMap Tryz.prog 2 MapI.elem q 12 (MapI.mapOf (Pl.vals E))∧Mem.zh3 w' (w.heap.size+2) E N∧q<w.heap.size+2)∨
 (RB=false∧e= .returned (.tuple #[.map none, .bool false]))
theorem rise_apart {l:List Int} {next :Int} (h:∀k,k<l.length→Pl.zn6 l next k=true):l.Pairwise (· < ·):=by
 rw [List.pairwise_iff_getElem];have h1:=(Pl.zy0 l next).1 h;intro i j hi hj hij
 induction j with
 |zero=>omega
 |succ j ih=>
  have h2:=(h1 (j+1) l[j+1] (List.getElem?_eq_getElem hj)).2 j (l[j]'(by omega)) rfl (List.getElem?_eq_getElem (by omega));by_cases e:i=j
  ·subst e;exact h2
  ·have :=ih (by omega) (by omega);omega
theorem inst_apart {N:List (Int × Bool)} {next :Int} {k:Nat} (hk:k≤N.length) (h:∀j,j<k→Pl.zj8 N next j=true):((N.map (·.1)).take k).Pairwise (· < ·):=by
 refine rise_apart (next :=next) fun j hj=>?_;rw [List.length_take,List.length_map] at hj;have ht:N[j]? =some N[j]:=List.getElem?_eq_getElem (by omega);have h1:=h j (by omega);simp only [Pl.zj8,ht,Bool.and_eq_true] at h1;have h2:=h1.2
 have hl:Pl.zh4 ((N.map (·.1)).take k) j=Pl.zh4 (N.map (·.1)) j:=by
  cases j with
  |zero=>rfl
  |succ j=>simp only [Pl.zh4];rw [List.getElem?_take,if_pos (by omega)]
 unfold Pl.zn6 at h2 ⊢;rw [hl,List.getElem?_take,if_pos (by omega)];exact h2
set_option linter.unusedSimpArgs false in
set_option maxRecDepth 100000 in
set_option maxHeartbeats 4000000 in
theorem zm0 (s:Pl.Sp) (w:World) (hok:za8.OkS s 1048576) (hcap:∀x∈s.N,x.Is.length≤x.cap) (hv:Mem.zf8 w s.ia s.N) (hl:s.N.length≤12) (hn:s.next≤1000000)
  (r0 r1 r2 r3:TypeId) (x0 x1 x2 x3:Value) (hE:zg8.zo5 w r0 r1 r2 r3 x0 x1 x2 x3):
  Calls Tryz.prog 98 #[.agg s.cs] w fun e w'=>Insted w s.N (Pl.zo3 (s.N.map WSp.nr) s.next) e w'∧Below w.heap.size w w':=by
 obtain ⟨ia,ic,N,ma,mc,M,ha,hc,H,next⟩:=s;simp only at hcap hv hl hn ⊢;have HN:=hide (fun W (b:Below w.heap.size w W) (x:Pl.Ns) (hx:x∈N) (h:Mem.zb2 W x.a x.Is)=>zs4.nest_any x.a x.cap x.Is W (hok.each x hx).1 (hcap x hx) h (hok.each x hx).2 r0 r1 r2 r3 x0 x1 x2 x3 (hE.call b));have HV:=hide hv;unfold Pl.Sp.cs;simp only;have b0:Below w.heap.size w ((w.alloc (.cells #[.slice ia N.length ic, .slice ma M.length mc, .slice ha H.length hc, .int .i64 next] 32)).alloc (.map #[] 0)):=(bE0).alloc (by simp) _;have V0:=hide ((Mem.Blk.new w #[.slice ia N.length ic, .slice ma M.length mc, .slice ha H.length hc, .int .i64 next] 32).alloc (.map #[] 0))
 have M0:Hid (((w.alloc (.cells #[.slice ia N.length ic, .slice ma M.length mc, .slice ha H.length hc, .int .i64 next] 32)).alloc (.map #[] 0)).ownsMap Tryz.prog 2 MapI.elem (w.heap.size+1) 0 (MapI.mapOf (Pl.vals []))):=hide (by
  have h:=World.ownsMap_made (w.alloc (.cells #[.slice ia N.length ic, .slice ma M.length mc, .slice ha H.length hc, .int .i64 next] 32)) Tryz.prog 2 MapI.elem;rw [show (w.alloc (.cells #[.slice ia N.length ic, .slice ma M.length mc, .slice ha H.length hc, .int .i64 next] 32)).heap.size=w.heap.size+1 by simp] at h
  exact h)
 have a0:=(za V0).cell 0;simp only [kGs] at a0;have HR1:Hid (Pl.zo3 (N.map WSp.nr) next =(List.range N.length).all (Pl.zj8 (N.map WSp.nr) next)):=hide (by unfold Pl.zo3;rw [List.length_map]);generalize Pl.zo3 (N.map WSp.nr) next =RB at HR1 ⊢;clear hok hcap hv hE;have hmm:=@run_makeMap Tryz.prog;go_enter Tryz.func98,Tryz.ntmps98
 go_wp2
 go_loopw [5,14] (fun l i wr=>∃ (k:Nat) (E:List (Int × Pl.Nv)),k≤N.length∧i= .int .i64 (k:Int)∧l= .int .i64 (Pl.zh4 (N.map (·.d)) k)∧Below w.heap.size w wr∧Hid (Mem.Blk wr w.heap.size #[.slice ia N.length ic, .slice ma M.length mc, .slice ha H.length hc, .int .i64 next] 32)∧Hid (wr.ownsMap Tryz.prog 2 MapI.elem (w.heap.size+1) k (MapI.mapOf (Pl.vals E)))∧Hid (E.map (·.1)=(N.map (·.d)).take k)∧Hid (Mem.zh3 wr (w.heap.size+2) E N)∧Hid (∀j,j<k→Pl.zj8 (N.map WSp.nr) next j=true)) (fun _ i _=>N.length - (intOf i).toNat)
 case atStart=>exact ⟨0,[],Nat.zero_le _,rfl,rfl,b0,V0,M0,hide (by simp),fun i y h=>(by simp at h),fun j h=>absurd h (by omega)⟩
 case round=>
  obtain ⟨k,E,hk,rfl,rfl,hbel,V,MO,HEI,NS,HA⟩:=hrel;clear V0 b0 a0 M0;by_cases hlt:k<N.length
  ·obtain ⟨t,ht⟩:∃n,N[k]? =some n:=⟨_,List.getElem?_eq_getElem hlt⟩;obtain ⟨⟨g,o,rfl,hg,q0,q1⟩,q2⟩:=(za HV) k t ht;have HNO:Hid (Pl.zj8 (N.map WSp.nr) next k=false→RB=false):=hide (fun h=>by rw [za HR1];exact Pl.zx3 hlt h)
   have HSTEP:Hid (Pl.zj8 (N.map WSp.nr) next k=((Pl.nest (Pl.rowO (t.Is.map Pl.It.r))).isSome&&(decide (Pl.zh4 (N.map (·.d)) k<t.d)&&decide (t.d<next)))):=hide (by
    unfold Pl.zj8 Pl.zn6;rw [List.getElem?_map,ht,List.map_map];have e:(Prod.fst ∘ WSp.nr)=fun x:Pl.Ns=>x.d:=rfl;rw [show ((fun x:Int × Bool=>x.1) ∘ WSp.nr)=fun x:Pl.Ns=>x.d from rfl,List.getElem?_map,ht]
    rfl)
   have HLAST:Hid (Pl.zh4 (N.map (·.d)) (k+1)=t.d):=hide (by
    show (match (N.map (·.d))[k]? with |none=>0|some x=>x)=_;rw [List.getElem?_map,ht]
    rfl)
   generalize Pl.zh4 (N.map (·.d)) k=L at HSTEP ⊢;have u1:(k:Int)<(N.length:Int):=by omega
   have u3:(0:Int)≤(k:Int):=by omega
   have b2:Below wr.heap.size wr (wr.alloc (.cells #[.int .i64 t.d, .slice t.a t.Is.length t.cap] 105)):=bE0;have hbel2:=hbel.trans (b2.mono hbel.size);have c0:=(hbel.cell (p:=⟨g,_,none⟩) hg).trans q0;have c1:=(hbel.cell (p:=⟨g,_,none⟩) hg).trans q1;have X2:=hide (Mem.Blk.new wr #[.int .i64 t.d, .slice t.a t.Is.length t.cap] 105);have V2:=hide ((za V).call b2);have M2:=hide (MapI.ze4 (za MO) b2);have N2:=hide ((za NS).call b2);have hlo:w.heap.size+2≤wr.heap.size:=by have :=(za MO).lt;omega
   have HC:=hide (za HN _ hbel2 t (List.mem_of_getElem? ht) (Mem.zb9 q2 hbel2));have HT:=hide ht;clear q0 q1 q2 V MO NS ht;go_upto_region 6 with fail
   have hlo2:w.heap.size+2≤(wr.alloc (.cells #[.int .i64 t.d, .slice t.a t.Is.length t.cap] 105)).heap.size:=Nat.le_trans hlo b2.size;generalize wr.alloc (.cells #[.int .i64 t.d, .slice t.a t.Is.length t.cap] 105)=wZ at hbel2 V2 X2 M2 N2 HC hlo2 ⊢;generalize wr.heap.size=X at X2 ⊢;obtain ⟨y0,y1⟩:=jc2 (za X2);clear hbel c0 c1 b2 hlo;go_wp2_with fail
   refine (za HC).mono ?_;rintro e w3 ⟨hN,bX⟩;have b3:=hbel2.trans (bX.mono hbel2.size);have V3:=hide ((za V2).call bX);have X3:=hide ((za X2).call bX);have M3:=hide (MapI.ze4 (za M2) bX);have N3:=hide ((za N2).call bX);clear HC y0 y1 V2 X2 M2 N2 hbel2
   rcases hN with ⟨L',kx,q',a',cap',hsome,rfl,hnest⟩|⟨hnone,r,x,rfl, -⟩
   ·have hs3:wZ.heap.size≤w3.heap.size:=bX.size
    have NV:Hid (Mem.zi3 w3 (w.heap.size+2) ⟨some q',kx.len,a',cap'⟩ (t.Is.map Pl.It.r)):=hide (by
     obtain ⟨⟨⟨h1,h2⟩,h3⟩,h4,h5⟩:=hnest
     exact ⟨L',kx,q',rfl,rfl,⟨⟨Nat.le_trans hlo2 h1,h2⟩,h3⟩,h4,Mem.zw1 h5 (fun b hb _=>Nat.le_trans hlo2 hb)⟩)
    rw [hsome] at HSTEP;generalize kx.len=kn at NV ⊢;clear hnest hsome bX;have b5:=b3.alloc (o:= .cells #[.map (some q'), .int .i64 (kn:Int), .slice a' kn cap'] 171) b3.size;have bA:Below w3.heap.size w3 (w3.alloc (.cells #[.map (some q'), .int .i64 (kn:Int), .slice a' kn cap'] 171)):=bE0;have V5:=hide ((za V3).call bA);have X5:=hide ((za X3).call bA);have M5:=hide (MapI.ze4 (za M3) bA);have N5:=hide ((za N3).call bA);have NV5:=hide ((za NV).call bA);have Y5:=hide (Mem.Blk.new w3 #[.map (some q'), .int .i64 (kn:Int), .slice a' kn cap'] 171);have hY:=(za M3).lt;go_upto_region 7 with fail
    generalize w3.alloc (.cells #[.map (some q'), .int .i64 (kn:Int), .slice a' kn cap'] 171)=wY at b5 V5 X5 M5 N5 NV5 Y5 ⊢;generalize w3.heap.size=Y at Y5 ⊢;obtain ⟨y0,y1⟩:=jc2 (za X5);have v3:=(za V5).cell 3;obtain ⟨z0,z1,z2⟩:=jc3 (za Y5);simp only [kGs] at v3;clear V3 X3 M3 N3 NV bA b3;by_cases h1:t.d≤L
    ·have HE0:Hid (RB=false):=hide (za HNO (by rw [za HSTEP,decide_eq_false (by omega :¬L<t.d)];simp));go_wp2
     go_ret2
     exact ⟨Or.inr ⟨za HE0,rfl⟩,b5⟩
    by_cases h2:next ≤t.d
    ·have HE0:Hid (RB=false):=hide (za HNO (by rw [za HSTEP,decide_eq_false (by omega :¬t.d<next)];simp));go_wp2
     go_ret2
     exact ⟨Or.inr ⟨za HE0,rfl⟩,b5⟩
    rw [decide_eq_true (by omega :L<t.d),decide_eq_true (by omega :t.d<next)] at HSTEP
    have HA2:Hid (∀j,j<k+1→Pl.zj8 (N.map WSp.nr) next j=true):=fun j hj=>by
     rcases Nat.lt_succ_iff_lt_or_eq.1 hj with h|h
     ·exact za HA j h
     ·rw [h,za HSTEP];rfl
    have hlow:MapI.i64 t.d:=by
     have hp:=Pl.rise_pos (l:=(N.map (·.d)).take (k+1)) (next :=next) (fun j hj=>by
      rw [List.length_take,List.length_map] at hj;have h3:=za HA2 j (by omega);have ht:N[j]? =some N[j]:=List.getElem?_eq_getElem (by omega);unfold Pl.zj8 at h3;rw [List.getElem?_map,ht] at h3;simp only [Option.map_some,Bool.and_eq_true] at h3;have h4:=h3.2;rw [List.map_map,show ((fun x:Int × Bool=>x.1) ∘ WSp.nr)=fun x:Pl.Ns=>x.d from rfl] at h4
      have hl:Pl.zh4 ((N.map (·.d)).take (k+1)) j=Pl.zh4 (N.map (·.d)) j:=by
       cases j with
       |zero=>rfl
       |succ j=>simp only [Pl.zh4];rw [List.getElem?_take,if_pos (by omega)]
      unfold Pl.zn6 at h4 ⊢;rw [hl,List.getElem?_take,if_pos (by omega)]
      exact h4) k t.d (by rw [List.getElem?_take,if_pos (by omega),List.getElem?_map,za HT];rfl)
     unfold MapI.i64;omega
    have hkey:=MapI.zl8 hlow
    have hEl:Hid (E.length=k):=hide (by
     have :=congrArg List.length (za HEI);rw [List.length_map,List.length_take,List.length_map] at this
     omega)
    have HEI2:Hid ((E++[(t.d,(⟨some q',kn,a',cap'⟩:Pl.Nv))]).map (·.1)=(N.map (·.d)).take (k+1)):=hide (by
     rw [List.map_append,za HEI,List.take_add_one,List.getElem?_map,za HT]
     rfl)
    have HPUT:Hid ((MapI.mapOf (Pl.vals E)).put (MapI.key t.d) (MapI.dat (.agg #[.map (some q'), .int .i64 (kn:Int), .slice a' kn cap']))=MapI.mapOf (Pl.vals (E++[(t.d,(⟨some q',kn,a',cap'⟩:Pl.Nv))]))):=hide (by
     show _=MapI.mapOf ((E++[(t.d,(⟨some q',kn,a',cap'⟩:Pl.Nv))]).map (fun x=>(x.1,x.2.val)));rw [List.map_append]
     exact (MapI.zy9 (Pl.vals E) (t.d, .agg #[.map (some q'), .int .i64 (kn:Int), .slice a' kn cap'])).symm)
    have hXn:Hid (X≠w.heap.size+1):=hide (fun e=>by
     obtain ⟨es,cl,h9,_⟩:=za M5;rw [←e] at h9;have h8:=za X5;unfold Mem.Blk at h8;rw [h8] at h9
     cases h9)
    clear HSTEP HNO;go_wp2_with (first |(at_mapUpdate;refine wpList_mapUpdate_own _ rfl _ _ _ 65 rfl 2 171 MapI.law Tryz.underlying65 _ (w.heap.size+1) k _ rfl (za M5) (by unfold maxLen;omega) _ _ _ rfl rfl hkey _ [] (MapI.zt6 (.agg #[.map (some q'), .int .i64 (kn:Int), .slice a' kn cap'])) ?_;intro wD hownD hgrowD;have cD:=hgrowD.cell y0 (fun e=>za hXn (Option.some.inj e));have M6:=hide hownD;have V6:=hide ((za V5).grown hgrowD (fun e=>by have :=Option.some.inj e;omega));have N6:=hide ((za N5).grown hgrowD (by omega));have NV6:=hide ((za NV5).grown hgrowD (by omega));have b6:=b5.grown hgrowD b5.size (fun j hj=>by have :=Option.some.inj hj;omega);clear hownD hgrowD)|fail)
    rw [za HPUT] at M6;have N7:=hide ((za N6).snoc (x:=t) (by rw [za hEl];exact za HT) (za NV6));go_wp2
    go_roundw
    case rel=>exact ⟨k+1,E++[(t.d,⟨some q',kn,a',cap'⟩)],by omega,by go_num,by rw [za HLAST],b6,V6,M6,HEI2,N7,HA2⟩
    case measure=>simp [intOf];omega
   ·have HE0:Hid (RB=false):=hide (za HNO (by rw [za HSTEP,hnone];rfl));have b5:=b3.alloc (o:= .cells #[.map none, .int .i64 0, .slice none 0 0] 171) b3.size;clear hnone bX;go_wp2
    go_ret2
    exact ⟨Or.inr ⟨za HE0,rfl⟩,b5⟩
  ·have u1:¬ (k:Int)<(N.length:Int):=by omega
   have hke:k=N.length:=by omega
   have HE:Hid (RB=true):=hide (by rw [za HR1];exact Pl.zt7 (fun j hj=>za HA j (by omega)));have HF:Hid (E.map (·.1)=N.map (·.d)):=hide (by rw [za HEI,hke,List.take_of_length_le (by rw [List.length_map];omega)]);have MF:=hide ((za MO).mono (show k≤12 by omega));go_wp2
   go_ret2
   exact ⟨Or.inl ⟨za HE,w.heap.size+1,E,rfl,by omega,za HF,za MF,za NS,by omega⟩,hbel⟩
end WSpI
end
section
open Go.RowKit
namespace WSpI
structure OkN (s:Pl.Sp):Prop where
 m:∀x∈s.M,MapI.i64 x.i
 h:∀x∈s.H,MapI.i64 x.i
end WSpI
namespace OpenSp
structure OkP (w:World) (s:Pl.Sp):Prop where
 sp:Mem.zc2 w s
 ok:za8.OkS s maxLen
 num:WSpI.OkN s
end OpenSp
end
end Go.Proofs.YtgdjjncmocppeaaGreatDoor
