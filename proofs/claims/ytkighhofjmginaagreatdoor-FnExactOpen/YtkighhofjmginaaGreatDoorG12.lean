/- Several texts of one claim in one file: WSpI7, MemSpO, Merge, OkSpace. -/
import Derived.Test.YtkighhofjmginaaGreatDoorPlainNr
import Derived.Test.YtkighhofjmginaaGreatDoorG11
namespace Go.Proofs.YtkighhofjmginaaGreatDoor
section
open Go.RowKit Go.Maps
namespace WSpI
def Insted (w:World) (N:List Pl.Ns) (RB:Bool) (e:Ending) (w':World):Prop:=
 (RB=true∧∃q E,e= .returned (.tuple #[.map (some q), .bool true])∧w.heap.size≤q∧E.map (·.1)=N.map (·.d)∧w'.ownsMap Tryz.prog 2 MapI.elem q 12 (MapI.mapOf (Pl.vals E))∧Mem.zg1 w' (w.heap.size+2) E N∧q<w.heap.size+2)∨
 (RB=false∧e= .returned (.tuple #[.map none, .bool false]))
theorem rise_apart {l:List Int} {next :Int} (h:∀k,k<l.length→Pl.zp4 l next k=true):l.Pairwise (· < ·):=by
 rw [List.pairwise_iff_getElem];have h1:=(Pl.yc8 l next).1 h;intro i j hi hj hij
 induction j with
 |zero=>omega
 |succ j ih=>
  have h2:=(h1 (j+1) l[j+1] (List.getElem?_eq_getElem hj)).2 j (l[j]'(by omega)) rfl (List.getElem?_eq_getElem (by omega));by_cases e:i=j
  ·subst e;exact h2
  ·have :=ih (by omega) (by omega);omega
theorem inst_apart {N:List (Int × Bool)} {next :Int} {k:Nat} (hk:k≤N.length) (h:∀j,j<k→Pl.zl3 N next j=true):((N.map (·.1)).take k).Pairwise (· < ·):=by
 refine rise_apart (next :=next) fun j hj=>?_;rw [List.length_take,List.length_map] at hj;have ht:N[j]? =some N[j]:=List.getElem?_eq_getElem (by omega);have h1:=h j (by omega);simp only [Pl.zl3,ht,Bool.and_eq_true] at h1;have h2:=h1.2
 have hl:Pl.zi8 ((N.map (·.1)).take k) j=Pl.zi8 (N.map (·.1)) j:=by
  cases j with
  |zero=>rfl
  |succ j=>simp only [Pl.zi8];rw [List.getElem?_take,if_pos (by omega)]
 unfold Pl.zp4 at h2 ⊢;rw [hl,List.getElem?_take,if_pos (by omega)];exact h2
set_option linter.unusedSimpArgs false in
set_option maxRecDepth 100000 in
set_option maxHeartbeats 4000000 in
theorem zo (s:Pl.Sp) (w:World) (hok:zb0.OkS s 1048576) (hcap:∀x∈s.N,x.Is.length≤x.cap) (hv:Mem.zg8 w s.ia s.N) (hl:s.N.length≤12) (hn:s.next≤1000000)
  (r0 r1 r2 r3:TypeId) (x0 x1 x2 x3:Value) (hE:zj6.zu9 w r0 r1 r2 r3 x0 x1 x2 x3):
  Calls Tryz.prog 105 #[.agg s.cs] w fun e w'=>Insted w s.N (Pl.zq3 (s.N.map WSp.nr) s.next) e w'∧Below w.heap.size w w':=by
 obtain ⟨ia,ic,N,ma,mc,M,ha,hc,H,next⟩:=s;simp only at hcap hv hl hn ⊢;have HN:=hide (fun W (b:Below w.heap.size w W) (x:Pl.Ns) (hx:x∈N) (h:Mem.zb3 W x.a x.Is)=>zw8.nest_any x.a x.cap x.Is W (hok.each x hx).1 (hcap x hx) h (hok.each x hx).2 r0 r1 r2 r3 x0 x1 x2 x3 (hE.call b));have HV:=hide hv;unfold Pl.Sp.cs;simp only;have b0:Below w.heap.size w ((w.alloc (.cells #[.slice ia N.length ic, .slice ma M.length mc, .slice ha H.length hc, .int .i64 next] 32)).alloc (.map #[] 0)):=(bE0).alloc (by simp) _;have V0:=hide ((Mem.Blk.new w #[.slice ia N.length ic, .slice ma M.length mc, .slice ha H.length hc, .int .i64 next] 32).alloc (.map #[] 0))
 have M0:Hid (((w.alloc (.cells #[.slice ia N.length ic, .slice ma M.length mc, .slice ha H.length hc, .int .i64 next] 32)).alloc (.map #[] 0)).ownsMap Tryz.prog 2 MapI.elem (w.heap.size+1) 0 (MapI.mapOf (Pl.vals []))):=hide (by
  have h:=World.ownsMap_made (w.alloc (.cells #[.slice ia N.length ic, .slice ma M.length mc, .slice ha H.length hc, .int .i64 next] 32)) Tryz.prog 2 MapI.elem;rw [show (w.alloc (.cells #[.slice ia N.length ic, .slice ma M.length mc, .slice ha H.length hc, .int .i64 next] 32)).heap.size=w.heap.size+1 by simp] at h
  exact h)
 have a0:=(za V0).cell 0;simp only [kGs] at a0;have HR1:Hid (Pl.zq3 (N.map WSp.nr) next =(List.range N.length).all (Pl.zl3 (N.map WSp.nr) next)):=hide (by unfold Pl.zq3;rw [List.length_map]);generalize Pl.zq3 (N.map WSp.nr) next =RB at HR1 ⊢;clear hok hcap hv hE;have hmm:=@run_makeMap Tryz.prog;go_enter Tryz.func105,Tryz.ntmps105
 go_wp2
 go_loopw [5,14] (fun l i wr=>∃ (k:Nat) (E:List (Int × Pl.Nv)),k≤N.length∧i= .int .i64 (k:Int)∧l= .int .i64 (Pl.zi8 (N.map (·.d)) k)∧Below w.heap.size w wr∧Hid (Mem.Blk wr w.heap.size #[.slice ia N.length ic, .slice ma M.length mc, .slice ha H.length hc, .int .i64 next] 32)∧Hid (wr.ownsMap Tryz.prog 2 MapI.elem (w.heap.size+1) k (MapI.mapOf (Pl.vals E)))∧Hid (E.map (·.1)=(N.map (·.d)).take k)∧Hid (Mem.zg1 wr (w.heap.size+2) E N)∧Hid (∀j,j<k→Pl.zl3 (N.map WSp.nr) next j=true)) (fun _ i _=>N.length - (intOf i).toNat)
 case atStart=>exact ⟨0,[],Nat.zero_le _,rfl,rfl,b0,V0,M0,hide (by simp),fun i y h=>(by simp at h),fun j h=>absurd h (by omega)⟩
 case round=>
  obtain ⟨k,E,hk,rfl,rfl,hbel,V,MO,HEI,NS,HA⟩:=hrel;clear V0 b0 a0 M0;by_cases hlt:k<N.length
  ·obtain ⟨t,ht⟩:∃n,N[k]? =some n:=⟨_,List.getElem?_eq_getElem hlt⟩;obtain ⟨⟨g,o,rfl,hg,q0,q1⟩,q2⟩:=(za HV) k t ht;have HNO:Hid (Pl.zl3 (N.map WSp.nr) next k=false→RB=false):=hide (fun h=>by rw [za HR1];exact Pl.yc1 hlt h)
   have HSTEP:Hid (Pl.zl3 (N.map WSp.nr) next k=((Pl.nest (Pl.rowO (t.Is.map Pl.It.r))).isSome&&(decide (Pl.zi8 (N.map (·.d)) k<t.d)&&decide (t.d<next)))):=hide (by
    unfold Pl.zl3 Pl.zp4;rw [List.getElem?_map,ht,List.map_map];have e:(Prod.fst ∘ WSp.nr)=fun x:Pl.Ns=>x.d:=rfl;rw [show ((fun x:Int × Bool=>x.1) ∘ WSp.nr)=fun x:Pl.Ns=>x.d from rfl,List.getElem?_map,ht]
    rfl)
   have HLAST:Hid (Pl.zi8 (N.map (·.d)) (k+1)=t.d):=hide (by
    show (match (N.map (·.d))[k]? with |none=>0|some x=>x)=_;rw [List.getElem?_map,ht]
    rfl)
   generalize Pl.zi8 (N.map (·.d)) k=L at HSTEP ⊢;have u1:(k:Int)<(N.length:Int):=by omega
   have u3:(0:Int)≤(k:Int):=by omega
   have b2:Below wr.heap.size wr (wr.alloc (.cells #[.int .i64 t.d, .slice t.a t.Is.length t.cap] 100)):=bE0;have hbel2:=hbel.trans (b2.mono hbel.size);have c0:=(hbel.cell (p:=⟨g,_,none⟩) hg).trans q0;have c1:=(hbel.cell (p:=⟨g,_,none⟩) hg).trans q1;have X2:=hide (Mem.Blk.new wr #[.int .i64 t.d, .slice t.a t.Is.length t.cap] 100);have V2:=hide ((za V).call b2);have M2:=hide (MapI.zf1 (za MO) b2);have N2:=hide ((za NS).call b2);have hlo:w.heap.size+2≤wr.heap.size:=by have :=(za MO).lt;omega
   have HC:=hide (za HN _ hbel2 t (List.mem_of_getElem? ht) (Mem.zb9 q2 hbel2));have HT:=hide ht;clear q0 q1 q2 V MO NS ht;go_upto_region 6 with fail
   have hlo2:w.heap.size+2≤(wr.alloc (.cells #[.int .i64 t.d, .slice t.a t.Is.length t.cap] 100)).heap.size:=Nat.le_trans hlo b2.size;generalize wr.alloc (.cells #[.int .i64 t.d, .slice t.a t.Is.length t.cap] 100)=wZ at hbel2 V2 X2 M2 N2 HC hlo2 ⊢;generalize wr.heap.size=X at X2 ⊢;obtain ⟨y0,y1⟩:=jc2 (za X2);clear hbel c0 c1 b2 hlo;go_wp2_with fail
   refine (za HC).mono ?_;rintro e w3 ⟨hN,bX⟩;have b3:=hbel2.trans (bX.mono hbel2.size);have V3:=hide ((za V2).call bX);have X3:=hide ((za X2).call bX);have M3:=hide (MapI.zf1 (za M2) bX);have N3:=hide ((za N2).call bX);clear HC y0 y1 V2 X2 M2 N2 hbel2
   rcases hN with ⟨L',kx,q',a',cap',hsome,rfl,hnest⟩|⟨hnone,r,x,rfl, -⟩
   ·have hs3:wZ.heap.size≤w3.heap.size:=bX.size
    have NV:Hid (Mem.zj4 w3 (w.heap.size+2) ⟨some q',kx.len,a',cap'⟩ (t.Is.map Pl.It.r)):=hide (by
     obtain ⟨⟨⟨h1,h2⟩,h3⟩,h4,h5⟩:=hnest
     exact ⟨L',kx,q',rfl,rfl,⟨⟨Nat.le_trans hlo2 h1,h2⟩,h3⟩,h4,Mem.yf2 h5 (fun b hb _=>Nat.le_trans hlo2 hb)⟩)
    rw [hsome] at HSTEP;generalize kx.len=kn at NV ⊢;clear hnest hsome bX;have b5:=b3.alloc (o:= .cells #[.map (some q'), .int .i64 (kn:Int), .slice a' kn cap'] 113) b3.size;have bA:Below w3.heap.size w3 (w3.alloc (.cells #[.map (some q'), .int .i64 (kn:Int), .slice a' kn cap'] 113)):=bE0;have V5:=hide ((za V3).call bA);have X5:=hide ((za X3).call bA);have M5:=hide (MapI.zf1 (za M3) bA);have N5:=hide ((za N3).call bA);have NV5:=hide ((za NV).call bA);have Y5:=hide (Mem.Blk.new w3 #[.map (some q'), .int .i64 (kn:Int), .slice a' kn cap'] 113);have hY:=(za M3).lt;go_upto_region 7 with fail
    generalize w3.alloc (.cells #[.map (some q'), .int .i64 (kn:Int), .slice a' kn cap'] 113)=wY at b5 V5 X5 M5 N5 NV5 Y5 ⊢;generalize w3.heap.size=Y at Y5 ⊢;obtain ⟨y0,y1⟩:=jc2 (za X5);have v3:=(za V5).cell 3;obtain ⟨z0,z1,z2⟩:=jc3 (za Y5);simp only [kGs] at v3;clear V3 X3 M3 N3 NV bA b3;by_cases h1:t.d≤L
    ·have HE0:Hid (RB=false):=hide (za HNO (by rw [za HSTEP,decide_eq_false (by omega :¬L<t.d)];simp));go_wp2
     go_ret2
     exact ⟨Or.inr ⟨za HE0,rfl⟩,b5⟩
    by_cases h2:next ≤t.d
    ·have HE0:Hid (RB=false):=hide (za HNO (by rw [za HSTEP,decide_eq_false (by omega :¬t.d<next)];simp));go_wp2
     go_ret2
     exact ⟨Or.inr ⟨za HE0,rfl⟩,b5⟩
    rw [decide_eq_true (by omega :L<t.d),decide_eq_true (by omega :t.d<next)] at HSTEP
    have HA2:Hid (∀j,j<k+1→Pl.zl3 (N.map WSp.nr) next j=true):=fun j hj=>by
     rcases Nat.lt_succ_iff_lt_or_eq.1 hj with h|h
     ·exact za HA j h
     ·rw [h,za HSTEP];rfl
    have hlow:MapI.i64 t.d:=by
     have hp:=Pl.rise_pos (l:=(N.map (·.d)).take (k+1)) (next :=next) (fun j hj=>by
      rw [List.length_take,List.length_map] at hj;have h3:=za HA2 j (by omega);have ht:N[j]? =some N[j]:=List.getElem?_eq_getElem (by omega);unfold Pl.zl3 at h3;rw [List.getElem?_map,ht] at h3;simp only [Option.map_some,Bool.and_eq_true] at h3;have h4:=h3.2;rw [List.map_map,show ((fun x:Int × Bool=>x.1) ∘ WSp.nr)=fun x:Pl.Ns=>x.d from rfl] at h4
      have hl:Pl.zi8 ((N.map (·.d)).take (k+1)) j=Pl.zi8 (N.map (·.d)) j:=by
       cases j with
       |zero=>rfl
       |succ j=>simp only [Pl.zi8];rw [List.getElem?_take,if_pos (by omega)]
      unfold Pl.zp4 at h4 ⊢;rw [hl,List.getElem?_take,if_pos (by omega)]
      exact h4) k t.d (by rw [List.getElem?_take,if_pos (by omega),List.getElem?_map,za HT];rfl)
     unfold MapI.i64;omega
    have hkey:=MapI.zm4 hlow
    have hEl:Hid (E.length=k):=hide (by
     have :=congrArg List.length (za HEI);rw [List.length_map,List.length_take,List.length_map] at this
     omega)
    have HEI2:Hid ((E++[(t.d,(⟨some q',kn,a',cap'⟩:Pl.Nv))]).map (·.1)=(N.map (·.d)).take (k+1)):=hide (by
     rw [List.map_append,za HEI,List.take_add_one,List.getElem?_map,za HT]
     rfl)
    have HPUT:Hid ((MapI.mapOf (Pl.vals E)).put (MapI.key t.d) (MapI.dat (.agg #[.map (some q'), .int .i64 (kn:Int), .slice a' kn cap']))=MapI.mapOf (Pl.vals (E++[(t.d,(⟨some q',kn,a',cap'⟩:Pl.Nv))]))):=hide (by
     show _=MapI.mapOf ((E++[(t.d,(⟨some q',kn,a',cap'⟩:Pl.Nv))]).map (fun x=>(x.1,x.2.val)));rw [List.map_append]
     exact (MapI.yd9 (Pl.vals E) (t.d, .agg #[.map (some q'), .int .i64 (kn:Int), .slice a' kn cap'])).symm)
    have hXn:Hid (X≠w.heap.size+1):=hide (fun e=>by
     obtain ⟨es,cl,h9,_⟩:=za M5;rw [←e] at h9;have h8:=za X5;unfold Mem.Blk at h8;rw [h8] at h9
     cases h9)
    clear HSTEP HNO;go_wp2_with (first |(at_mapUpdate;refine wpList_mapUpdate_own _ rfl _ _ _ 71 rfl 2 113 MapI.law Tryz.underlying71 _ (w.heap.size+1) k _ rfl (za M5) (by unfold maxLen;omega) _ _ _ rfl rfl hkey _ [] (MapI.zr7 (.agg #[.map (some q'), .int .i64 (kn:Int), .slice a' kn cap'])) ?_;intro wD hownD hgrowD;have cD:=hgrowD.cell y0 (fun e=>za hXn (Option.some.inj e));have M6:=hide hownD;have V6:=hide ((za V5).grown hgrowD (fun e=>by have :=Option.some.inj e;omega));have N6:=hide ((za N5).grown hgrowD (by omega));have NV6:=hide ((za NV5).grown hgrowD (by omega));have b6:=b5.grown hgrowD b5.size (fun j hj=>by have :=Option.some.inj hj;omega);clear hownD hgrowD)|fail)
    rw [za HPUT] at M6;have N7:=hide ((za N6).snoc (x:=t) (by rw [za hEl];exact za HT) (za NV6));go_wp2
    go_roundw
    case rel=>exact ⟨k+1,E++[(t.d,⟨some q',kn,a',cap'⟩)],by omega,by go_num,by rw [za HLAST],b6,V6,M6,HEI2,N7,HA2⟩
    case measure=>simp [intOf];omega
   ·have HE0:Hid (RB=false):=hide (za HNO (by rw [za HSTEP,hnone];rfl));have b5:=b3.alloc (o:= .cells #[.map none, .int .i64 0, .slice none 0 0] 113) b3.size;clear hnone bX;go_wp2
    go_ret2
    exact ⟨Or.inr ⟨za HE0,rfl⟩,b5⟩
  ·have u1:¬ (k:Int)<(N.length:Int):=by omega
   have hke:k=N.length:=by omega
   have HE:Hid (RB=true):=hide (by rw [za HR1];exact Pl.zx6 (fun j hj=>za HA j (by omega)));have HF:Hid (E.map (·.1)=N.map (·.d)):=hide (by rw [za HEI,hke,List.take_of_length_le (by rw [List.length_map];omega)]);have MF:=hide ((za MO).mono (show k≤12 by omega));go_wp2
   go_ret2
   exact ⟨Or.inl ⟨za HE,w.heap.size+1,E,rfl,by omega,za HF,za MF,za NS,by omega⟩,hbel⟩
end WSpI
end
section
open Go.RowKit Go.Maps
namespace Mem
theorem zb2 {α:Type} {T:TypeId} {cs:α→List Value} {w:World} {B:Nat} {v:Value} {L:List α} (h:own3 T cs w B v L) (a:Addr) (u:Value) (ha:∀g,v.ownBlock=some g→a.block≠g):own3 T cs (w.setCell a u) B v L:=by
 refine ⟨h.1,?_⟩
 rcases h.2 with h0|⟨g,cap,cur,rfl,hb,hg,rest⟩
 ·exact .inl h0
 ·exact .inr ⟨g,cap,cur,rfl,hb,(heap_setCell_other w a g u (fun e=>ha g rfl e.symm)).trans hg,rest⟩
theorem zb {α:Type} {T:TypeId} {cs:α→List Value} {w:World} {B:Nat} {v:Value} {L:List α} (h:own3 T cs w B v L):∀g,v.ownBlock=some g→B≤g∧g<w.heap.size:=fun g hg=>World.ownsRow.lt h g hg
end Mem
namespace SpO
abbrev Z:Obj:= .cells #[.map none, .slice none 0 0, .slice none 0 0, .int .i64 0] 73
structure SpV (B:Nat) (W:World) (s:Pl.Sp) (q:Nat) (E:List (Int × Pl.Nv)) (ma:Option Addr) (mc:Nat) (ha:Option Addr) (hc:Nat):Prop where
 lo:B≤q
 ids:E.map (·.1)=s.N.map (·.d)
 mo:W.ownsMap Tryz.prog 2 MapI.elem q 12 (MapI.mapOf (Pl.vals E))
 nv:∃W1,Mem.zg1 W1 (q+1) E s.N∧W1.heap.size≤W.heap.size∧q<W1.heap.size∧(∀b,q<b→b<W1.heap.size→W.heap[b]? =W1.heap[b]?)∧Mem.own3 56 Pl.Mn.cs W W1.heap.size (.slice ma s.M.length mc) s.M∧Mem.own3 67 Pl.Hn.cs W W1.heap.size (.slice ha s.H.length hc) s.H
 ne:∀g,(Value.slice ma s.M.length mc).ownBlock=some g→(Value.slice ha s.H.length hc).ownBlock≠some g
theorem SpV.call {B:Nat} {W W':World} {s:Pl.Sp} {q:Nat} {E:List (Int × Pl.Nv)} {ma:Option Addr} {mc:Nat} {ha:Option Addr} {hc:Nat} (h:SpV B W s q E ma mc ha hc) (b:Below W.heap.size W W'):SpV B W' s q E ma mc ha hc:=by
 obtain ⟨h1,h2,h3,⟨W1,h4,h5,h6,h7,h8,h9⟩,h10⟩:=h;exact ⟨h1,h2,MapI.zf1 h3 b,⟨W1,h4,Nat.le_trans h5 b.size,h6,fun g hg hl=>(b.block g (by omega)).trans (h7 g hg hl),Mem.zd7 h8 b,Mem.zd7 h9 b⟩,h10⟩
theorem SpV.far {B:Nat} {W:World} {s:Pl.Sp} {q:Nat} {E:List (Int × Pl.Nv)} {ma:Option Addr} {mc:Nat} {ha:Option Addr} {hc:Nat} (h:SpV B W s q E ma mc ha hc) {Y:Nat} (k:Nat) (u:Value) (hY:Y<q):SpV B (W.setCell ⟨Y,k,none⟩ u) s q E ma mc ha hc:=by
 obtain ⟨h1,h2,h3,⟨W1,h4,h5,h6,h7,h8,h9⟩,h10⟩:=h;have g:W.grownBy (W.setCell ⟨Y,k,none⟩ u) (some Y):=⟨rfl,rfl,rfl,by rw [World.size_setCell];exact Nat.le_refl _,fun j _ hj=>heap_setCell_other _ _ _ _ (fun e=>hj (congrArg some e))⟩;refine ⟨h1,h2,h3.kept g (fun e=>by have :=Option.some.inj e;omega),⟨W1,h4,by rw [World.size_setCell];exact h5,h6,fun b hb hl=>(heap_setCell_other _ _ _ _ (by show b≠Y;omega)).trans (h7 b hb hl),Mem.zb2 h8 _ _ (fun b hb=>by have :=(Mem.zb h8 b hb).1;show Y≠b;omega),Mem.zb2 h9 _ _ (fun b hb=>by have :=(Mem.zb h9 b hb).1;show Y≠b;omega)⟩,h10⟩
theorem SpV.nests {B:Nat} {W:World} {s:Pl.Sp} {q:Nat} {E:List (Int × Pl.Nv)} {ma:Option Addr} {mc:Nat} {ha:Option Addr} {hc:Nat} (h:SpV B W s q E ma mc ha hc):Mem.zg1 W (q+1) E s.N:=by
 obtain ⟨W1,h4,h5,h6,h7,h8,h9⟩:=h.nv;intro i y hy;obtain ⟨x,k1,k2,k3⟩:=h4 i y hy;exact ⟨x,k1,k2,k3.same h5 (fun b hb hl=>h7 b (by omega) hl)⟩
theorem SpV.zh9 {B:Nat} {W:World} {s:Pl.Sp} {q:Nat} {E:List (Int × Pl.Nv)} {ma:Option Addr} {mc:Nat} {ha:Option Addr} {hc:Nat} (h:SpV B W s q E ma mc ha hc):Mem.zc4 W ma s.M:=by
 obtain ⟨W1,h4,h5,h6,h7,h8,h9⟩:=h.nv;obtain ⟨a,cap,e,hr,_⟩:=Mem.zr2 Pl.Mn.three h8;cases e
 exact Mem.zq5 hr
theorem SpV.hands {B:Nat} {W:World} {s:Pl.Sp} {q:Nat} {E:List (Int × Pl.Nv)} {ma:Option Addr} {mc:Nat} {ha:Option Addr} {hc:Nat} (h:SpV B W s q E ma mc ha hc):Mem.ze W ha s.H:=by
 obtain ⟨W1,h4,h5,h6,h7,h8,h9⟩:=h.nv;obtain ⟨a,cap,e,hr,_⟩:=Mem.zr2 Pl.Hn.three h9;cases e
 exact Mem.zt4 hr
structure Ps (D W:World) (eX:Option Nat) (o1 o2:Option (Option Addr × Nat)) (M:List Pl.Mn) (H:List Pl.Hn):Prop where
 bel:Below D.heap.size D W
 bx:∀X,eX=some X→Mem.Blk W X #[.map none, .slice none 0 0, .slice none 0 0, .int .i64 0] 73∧D.heap.size≤X
 q1:∀p,o1=some p→Mem.own3 56 Pl.Mn.cs W D.heap.size (.slice p.1 M.length p.2) M∧∀g,(Value.slice p.1 M.length p.2).ownBlock=some g→eX≠some g
 q2:∀p,o2=some p→Mem.own3 67 Pl.Hn.cs W D.heap.size (.slice p.1 H.length p.2) H∧∀g,(Value.slice p.1 H.length p.2).ownBlock=some g→eX≠some g∧∀p1,o1=some p1→(Value.slice p1.1 M.length p1.2).ownBlock≠some g
section
variable {D W W':World} {eX:Option Nat} {o1 o2:Option (Option Addr × Nat)} {M:List Pl.Mn} {H:List Pl.Hn}
theorem Ps.start (b:Below D.heap.size D W):Ps D W none none none M H:=⟨b,fun _ h=>(by cases h),fun _ h=>(by cases h),fun _ h=>(by cases h)⟩
theorem Ps.call (h:Ps D W eX o1 o2 M H) (b:Below W.heap.size W W'):Ps D W' eX o1 o2 M H:=
 ⟨h.bel.trans (b.mono h.bel.size),fun X e=>⟨(h.bx X e).1.call b,(h.bx X e).2⟩,fun p e=>⟨Mem.zd7 (h.q1 p e).1 b,(h.q1 p e).2⟩,fun p e=>⟨Mem.zd7 (h.q2 p e).1 b,(h.q2 p e).2⟩⟩
theorem Ps.ax (h:Ps D W none o1 o2 M H):Ps D (W.alloc Z) (some W.heap.size) o1 o2 M H:=by
 have g:=h.call ((Below.refl _ _).alloc (Nat.le_refl _) Z);refine ⟨g.bel,fun X e=>?_,fun p e=>⟨(g.q1 p e).1,fun q hq e2=>?_⟩,fun p e=>⟨(g.q2 p e).1,fun q hq=>⟨fun e2=>?_,((g.q2 p e).2 q hq).2⟩⟩⟩
 ·cases e;exact ⟨Mem.Blk.new _ _ _,h.bel.size⟩
 ·cases e2;have :=(Mem.zb (h.q1 p e).1 _ hq).2;omega
 ·cases e2;have :=(Mem.zb (h.q2 p e).1 _ hq).2;omega
theorem Ps.c1 {a:Option Addr} {c:Nat} (h:Ps D W eX none none M H) (b:Below W.heap.size W W') (o:Mem.own3 56 Pl.Mn.cs W' W.heap.size (.slice a M.length c) M):Ps D W' eX (some (a,c)) none M H:=by
 have g:=h.call b;refine ⟨g.bel,g.bx,fun p e=>?_,fun _ h=>(by cases h)⟩;cases e
 refine ⟨Mem.zl8 o h.bel.size,fun q hq e=>?_⟩;have :=(Mem.zb o q hq).1;have :=(h.bx q e).1.lt;omega
theorem Ps.c2 {a:Option Addr} {c:Nat} (h:Ps D W eX o1 none M H) (b:Below W.heap.size W W') (o:Mem.own3 67 Pl.Hn.cs W' W.heap.size (.slice a H.length c) H):Ps D W' eX o1 (some (a,c)) M H:=by
 have g:=h.call b;refine ⟨g.bel,g.bx,g.q1,fun p e=>?_⟩;cases e
 refine ⟨Mem.zl8 o h.bel.size,fun q hq=>⟨fun e=>?_,fun p1 e e1=>?_⟩⟩
 ·have :=(Mem.zb o q hq).1;have :=(h.bx q e).1.lt;omega
 ·have :=(Mem.zb o q hq).1;have :=(Mem.zb (h.q1 p1 e).1 q e1).2;omega
end
structure Rk (v W:World) (X q:Nat) (sa ta:Option Addr) (sc tc:Nat) (M:List Pl.Mn) (H:List Pl.Hn) (next :Int):Prop where
 bel:Below v.heap.size v W
 bx:Mem.Blk W X #[.map (some q), .slice sa M.length sc, .slice ta H.length tc, .int .i64 next] 73
 lx:v.heap.size≤X
 q1:Mem.own3 56 Pl.Mn.cs W v.heap.size (.slice sa M.length sc) M
 q2:Mem.own3 67 Pl.Hn.cs W v.heap.size (.slice ta H.length tc) H
 ne:∀g,(Value.slice sa M.length sc).ownBlock=some g→(Value.slice ta H.length tc).ownBlock≠some g
theorem Rk.call {v W W':World} {X q:Nat} {sa ta:Option Addr} {sc tc:Nat} {M:List Pl.Mn} {H:List Pl.Hn} {next :Int} (h:Rk v W X q sa ta sc tc M H next) (b:Below W.heap.size W W'):Rk v W' X q sa ta sc tc M H next :=
 ⟨h.bel.trans (b.mono h.bel.size),h.bx.call b,h.lx,Mem.zd7 h.q1 b,Mem.zd7 h.q2 b,h.ne⟩
theorem Rk.put {v W:World} {X q:Nat} {sa ta:Option Addr} {sc tc:Nat} {M:List Pl.Mn} {H:List Pl.Hn} {next :Int} (h:Rk v W X q sa ta sc tc M H next) {Y k:Nat} (u:Value) (hY:Y<v.heap.size):
  Mem.Blk (W.setCell ⟨Y,k,none⟩ u) X #[.map (some q), .slice sa M.length sc, .slice ta H.length tc, .int .i64 next] 73∧Mem.own3 56 Pl.Mn.cs (W.setCell ⟨Y,k,none⟩ u) v.heap.size (.slice sa M.length sc) M∧Mem.own3 67 Pl.Hn.cs (W.setCell ⟨Y,k,none⟩ u) v.heap.size (.slice ta H.length tc) H:=
 ⟨h.bx.far _ _ (by have :=h.lx;show X≠Y;omega),Mem.zb2 h.q1 _ _ (fun g hg=>by have :=(Mem.zb h.q1 g hg).1;show Y≠g;omega),Mem.zb2 h.q2 _ _ (fun g hg=>by have :=(Mem.zb h.q2 g hg).1;show Y≠g;omega)⟩
theorem Ps.fin {D W:World} {X q:Nat} {sa ta:Option Addr} {sc tc:Nat} {M:List Pl.Mn} {H:List Pl.Hn} (h:Ps D W (some X) (some (sa,sc)) (some (ta,tc)) M H) (next :Int):
  Rk D ((((W.setCell ⟨X,0,none⟩ (.map (some q))).setCell ⟨X,1,none⟩ (.slice sa M.length sc)).setCell ⟨X,2,none⟩ (.slice ta H.length tc)).setCell ⟨X,3,none⟩ (.int .i64 next)) X q sa ta sc tc M H next :=by
 obtain ⟨h5,l5⟩:=h.bx _ rfl;obtain ⟨o1,n1⟩:=h.q1 _ rfl;obtain ⟨o2,n2⟩:=h.q2 _ rfl;refine ⟨(((h.bel.setCell l5 _).setCell l5 _).setCell l5 _).setCell l5 _,(((h5.put 0 _).put 1 _).put 2 _).put 3 _,l5,?_,?_,fun g hg e=>(n2 g e).2 _ rfl hg⟩
 ·exact Mem.zb2 (Mem.zb2 (Mem.zb2 (Mem.zb2 o1 _ _ (fun g hg e=>n1 g hg (congrArg some e))) _ _ (fun g hg e=>n1 g hg (congrArg some e))) _ _ (fun g hg e=>n1 g hg (congrArg some e))) _ _ (fun g hg e=>n1 g hg (congrArg some e))
 ·exact Mem.zb2 (Mem.zb2 (Mem.zb2 (Mem.zb2 o2 _ _ (fun g hg e=>(n2 g hg).1 (congrArg some e))) _ _ (fun g hg e=>(n2 g hg).1 (congrArg some e))) _ _ (fun g hg e=>(n2 g hg).1 (congrArg some e))) _ _ (fun g hg e=>(n2 g hg).1 (congrArg some e))
theorem meet {P F:World→Nat→Option Addr→Nat→Option Addr→Nat→Prop} {G:Prop} (h1:(∀W X sa sc ta tc,F W X sa sc ta tc→P W X sa sc ta tc)→G) (h2:∀W X sa sc ta tc,F W X sa sc ta tc→P W X sa sc ta tc):G:=h1 h2
end SpO
end
section

theorem zy0 {P:Program} {code:Code} {Q:Exit→Act→World→Prop} {T:Array Value} {D:List _} {w:World} (R:Array Value→Array Value→World→Prop)
  (h:code.wp P (fun e a W=>e= .normal∧a.defers=D∧R T a.tmps W) ⟨T,D⟩ w) (h2:∀T' W,R T T' W→Q .normal ⟨T',D⟩ W):code.wp P Q ⟨T,D⟩ w:=
 Code.wp_mono (fun e a W ⟨h1,h3,h4⟩=>by
  obtain ⟨t,d⟩:=a;simp only at h3;subst h1 h3
  exact h2 _ _ h4) h
end
section
open Go.RowKit
namespace WSpI
structure OkN (s:Pl.Sp):Prop where
 m:∀x∈s.M,MapI.i64 x.i
 h:∀x∈s.H,MapI.i64 x.i
end WSpI
namespace OpenSp
structure OkP (w:World) (s:Pl.Sp):Prop where
 sp:Mem.zc9 w s
 ok:zb0.OkS s maxLen
 num:WSpI.OkN s
end OpenSp
end
end Go.Proofs.YtkighhofjmginaaGreatDoor
