/- Several texts of one claim in one file: TakeB, WHdN, WMkI, WHdZ, MemBand, WMkM, WHdM, WMkH, WHdH, Mem3, MapI, MapNv, MemNestV, MemSpO. -/
import Derived.Test.YtbomeifgfalmdaaGreatDoorPlainMkZ
import Derived.Laws.AppendOwnNone
set_option linter.unusedSimpArgs false
set_option maxRecDepth 100000
set_option maxHeartbeats 2000000
namespace Go.Proofs.YtbomeifgfalmdaaGreatDoor
section
open Go.RowKit
theorem TB {P:Program} {md:Region.Mode} {ops:Array Oper} {Q:Exit→Act→World→Prop} {S:World→Prop} {oi:Oper} {v:Value} {fuel:Nat} {listed l2:Array Bool} {a a2:Act} {w:World} (i:Nat)
  (h:wpAnyH P md ops Q S fuel l2 a2 w) (hi:ops[i]? =some oi:=by exact rfl)
  (hs:Region.noSelect ops=true:=by kernel_rfl) (hf:Region.free md ops listed i=true:=by kernel_rfl) (hr:(Region.ready md ops listed).contains i=true:=by kernel_rfl)
  (hw:Region.wanted oi (yielded ops a.tmps)=true:=by first |kernel_rfl|rfl)
  (hy:∀w,S w→(execOp a.eval oi).run P w= .ok (.value v) w:=by (intro w hSw;(try dsimp only at hSw);go_simp;(try with_reducible rfl)))
  (hl:listed.setIfInBounds i true=l2:=by ((try simp only [kBs]);exact rfl)) (hp:a.put oi.dst v=a2:=by ((try simp only [Act.put,kBs]);exact rfl))
  (hQ:∀c a w,Q (.panic c) (a.put oi.dst v) w→Q (.panic c) a w:=by first |exact fun _ _ _ h=>h|exact fun _ _ _ h=>nomatch h.1) (hS:S w:=by assumption):wpAnyH P md ops Q S (fuel+1) listed a w:=by
 subst hl;subst hp;exact wpAnyH_take hi hs hf hr hQ (Or.inl ⟨hw,hy⟩) hS h
theorem TC {P:Program} {md:Region.Mode} {ops:Array Oper} {Q:Exit→Act→World→Prop} {S:World→Prop} {oi:Oper} {fuel:Nat} {listed l2:Array Bool} {a a2:Act} {w:World} (i:Nat)
  (h:wpAnyH P md ops Q S fuel l2 a2 w) (hi:ops[i]? =some oi:=by exact rfl)
  (hs:Region.noSelect ops=true:=by kernel_rfl) (hf:Region.free md ops listed i=true:=by kernel_rfl) (hr:(Region.ready md ops listed).contains i=true:=by kernel_rfl)
  (hw:Region.wanted oi (yielded ops a.tmps)=false:=by first |kernel_rfl|rfl)
  (hl:listed.setIfInBounds i true=l2:=by ((try simp only [kBs]);exact rfl)) (hp:a.put oi.dst undef=a2:=by ((try simp only [Act.put,kBs]);exact rfl))
  (hQ:∀c a w,Q (.panic c) (a.put oi.dst undef) w→Q (.panic c) a w:=by first |exact fun _ _ _ h=>h|exact fun _ _ _ h=>nomatch h.1) (hS:S w:=by assumption):wpAnyH P md ops Q S (fuel+1) listed a w:=by
 subst hl;subst hp;exact wpAnyH_take hi hs hf hr hQ (Or.inr ⟨hw,rfl⟩) hS h
theorem bD {n:Nat} (w:World):Below n w w.drew:=⟨rfl,rfl,rfl,Nat.le_refl _,fun _ _=>rfl⟩
theorem RN {P:Program} {md:Region.Mode} {ops:Array Oper} {Q:Exit→Act→World→Prop} {S:World→Prop} {o:Oper} {fuel:Nat} {listed:Array Bool} {a:Act} {w:World} (i:Nat)
  (h:∀K':Act→World→Prop,Shut (∀a w,S w→(S w→wpAnyH P md ops Q S fuel (listed.setIfInBounds i true) a w)→K' a w)→if Region.wanted o (yielded ops a.tmps)=true then Oper.wp P o a w K' Q else K' (a.put o.dst undef) w)
  (ho:ops[i]? =some o:=by exact rfl) (hr:Region.ready md ops listed=[i]:=by kernel_rfl):wpAnyH P md ops Q S (fuel+1) listed a w:=
 wpAnyH_ready hr (by simp) (AllReadyH.cons ho h AllReadyH.nil)
theorem RG {P:Program} {ops:Array Oper} {Q:Exit→Act→World→Prop} {S:World→Prop} {id B:Nat} {a:Act} {w w0:World} (MK:Hid (∀W',Below B w0 W'→S W')) (b:Below B w0 w.drew)
  (h:S w.drew→wpAnyH P .any ops Q S ops.size (Array.replicate ops.size false) a w.drew) (hm:P.follows .mixedOrders=true:=by kernel_rfl):(Code.region id ops true).wp P Q a w:=
 wp_region_held_drew hm (MK _ b) h
end
section
open Go.RowKit
namespace zk9
theorem zg9 (a:Option Addr) (n cap K:Nat) (w:World) (hn:n≤1048576) (hK:0<K) (hK2:K≤1000000) (hv:Mem.zb1 w a (Pl.zq7 K n)):
  Calls Tryz.prog 130 #[.slice a n cap, .int .i64 (K:Int)] w fun e w'=>e= .returned (.int .i64 ((K+5*n:Nat):Int))∧Below w.heap.size w w':=by
 have HV:=hide hv;clear hv;go_enter Tryz.func130,Tryz.ntmps130
 go_wp2
 go_loopw [1,5] (fun v i wr=>∃ (k q:Nat),k≤n∧q=K+5*k∧i= .int .i64 (k:Int)∧v= .int .i64 (q:Int)∧Below w.heap.size w wr) (fun _ i _=>n - (intOf i).toNat)
 case atStart=>exact ⟨0,K,Nat.zero_le _,rfl,rfl,rfl,Below.refl _ _⟩
 case round=>
  obtain ⟨k,q,hk,hq,rfl,rfl,hbel⟩:=hrel;by_cases hlt:k<n
  ·have y1:(k:Int)<(n:Int):=by omega
   have y3:(0:Int)≤(k:Int):=by omega
   obtain ⟨g,o,rfl,hg,c0,c1,c2,c3,c4⟩:=(Mem.za9 (za HV) hbel) k (Pl.zz6 K k) (by simp [Pl.zq7,List.getElem?_range hlt]);simp only [Pl.zz6,←hq] at c0 c1 c2 c3 c4;have HM:=hide (fun W=>zk4.zf3 q W (by omega) (by omega));have HM2:=hide (fun W=>zk4.zf3 (q+2) W (by omega) (by omega));rw [show ((q+2:Nat):Int)=(q:Int)+1+1 by omega] at HM2;rw [show ((q+1:Nat):Int)=(q:Int)+1 by omega] at c1;rw [show ((q+3:Nat):Int)=(q:Int)+1+1+1 by omega] at c3;rw [show ((q+4:Nat):Int)=(q:Int)+1+1+1+1 by omega] at c4;have HQ:=hide hq;have q1:(q:Int)≤100000000:=by omega
   clear hq;have MK:Hid (∀W',Below wr.heap.size wr W'→(Below wr.heap.size wr W'∧W'.cell? ⟨g,o+k*5,none⟩=some (.string (Pl.mark q))∧W'.cell? ⟨g,o+k*5+1,none⟩=some (.int .i64 ((q:Int)+1))∧W'.cell? ⟨g,o+k*5+2,none⟩=some (.string (Pl.mark (q+2)))∧W'.cell? ⟨g,o+k*5+3,none⟩=some (.int .i64 ((q:Int)+1+1+1))∧W'.cell? ⟨g,o+k*5+4,none⟩=some (.int .i64 ((q:Int)+1+1+1+1)))):=fun W' hb'=>⟨hb',(hb'.cell (p:=⟨g,_,none⟩) hg).trans c0,(hb'.cell (p:=⟨g,_,none⟩) hg).trans c1,(hb'.cell (p:=⟨g,_,none⟩) hg).trans c2,(hb'.cell (p:=⟨g,_,none⟩) hg).trans c3,(hb'.cell (p:=⟨g,_,none⟩) hg).trans c4⟩;clear c0 c1 c2 c3 c4;go_wp2_with fail
   refine RG MK (bD _) fun hHeld=>?_;refine TB 0 ?_;refine TB 1 ?_;refine TB 2 ?_;refine TB 3 ?_;refine TB 4 ?_;refine TB 5 ?_;refine RN 6 fun K hK=>?_;go_simp
   refine (za HM _).mono ?_;rintro e wA ⟨rfl,bX⟩;refine hK.out _ _ ?_ (fun hHeld=>?_)
   ·exact za MK _ (hHeld.1.trans (bX.mono hHeld.1.size))
   clear hK K
   try simp only [Act.put,kBs]
   refine TB 7 ?_;refine wpAnyH_done (by kernel_rfl) ?_ _;obtain ⟨hA, -,e1, -, -, -⟩:=hHeld;go_wp2_with fail
   refine wp_region_held_drew (S:=fun W'=>Below wr.heap.size wr W'∧W'.cell? ⟨g,o+k*5,none⟩=some (.string (Pl.mark q))∧W'.cell? ⟨g,o+k*5+1,none⟩=some (.int .i64 ((q:Int)+1))∧W'.cell? ⟨g,o+k*5+2,none⟩=some (.string (Pl.mark (q+2)))∧W'.cell? ⟨g,o+k*5+3,none⟩=some (.int .i64 ((q:Int)+1+1+1))∧W'.cell? ⟨g,o+k*5+4,none⟩=some (.int .i64 ((q:Int)+1+1+1+1))) (by kernel_rfl) ?_ (fun hHeld=>?_)
   ·exact za MK _ (hA.trans ⟨rfl,rfl,rfl,Nat.le_refl _,fun _ _=>rfl⟩)
   refine TB 0 ?_;refine TB 1 ?_;refine TB 2 ?_;refine TB 3 ?_;refine TB 4 ?_;refine TB 5 ?_;refine RN 6 fun K hK=>?_;go_simp
   refine (za HM2 _).mono ?_;rintro e wB ⟨rfl,bX⟩;refine hK.out _ _ ?_ (fun hHeld=>?_)
   ·exact za MK _ (hHeld.1.trans (bX.mono hHeld.1.size))
   clear hK K
   try simp only [Act.put,kBs]
   refine TB 7 ?_;refine wpAnyH_done (by kernel_rfl) ?_ _;obtain ⟨hB, -, -, -,e3,e4⟩:=hHeld;have hfin:=hbel.trans (hB.mono hbel.size);clear MK hA hB bX HM HM2 hbel e1;go_wp2
   go_roundw
   case rel=>exact ⟨k+1,q+5,by omega,by have :=za HQ;omega,by go_num,by go_num,hfin⟩
   case measure=>simp [intOf];omega
  ·obtain rfl:k=n:=by omega
   have y1:¬ (k:Int)<(k:Int):=by omega
   have hq2:(q:Int)=((K+5*k:Nat):Int):=by omega
   have HQ:=hide hq2;clear hq2 hq;go_wp2
   go_ret
   exact ⟨by rw [za HQ];rfl,hbel⟩
end zk9
end
section
open Go.RowKit
namespace WMarkI
theorem layNil (K:Nat) (w:World):Calls Tryz.prog 97 #[.slice none 0 0, .int .i64 (K:Int)] w fun e w'=>e= .returned (.int .i64 (K:Int))∧Below w.heap.size w w':=by
 go_enter Tryz.func97,Tryz.ntmps97
 go_wp2
 refine wp_loop_rounds 1 ?_;rw [rounds_succ];go_wp2
 go_ret
 exact ⟨rfl,Below.refl _ _⟩
theorem zg9 (a:Option Addr) (cap K:Nat) (Is:List Pl.It) (w:World) (hn:Is.length≤1000) (hL:∀x∈Is,x.t.L.length≤1048576) (hK:0<K) (hK2:∀i,i≤Is.length→Pl.kAt K Is i≤100000) (hv:Mem.zb4 w a (Pl.mkTo K Is Is.length)):
  Calls Tryz.prog 98 #[.slice a Is.length cap, .int .i64 (K:Int)] w fun e w'=>e= .returned (.int .i64 (Pl.kAt K Is Is.length:Int))∧Below w.heap.size w w':=by
 have HV:Hid (∀ (j:Nat) x,Is[j]? =some x→(∃b o,a=some ⟨b,o,none⟩∧b<w.heap.size∧w.cell? ⟨b,o+j*2,none⟩=some (.int .i64 (Pl.kAt K Is j:Int))∧w.cell? ⟨b,o+j*2+1,none⟩=some (.slice x.t.a x.t.L.length x.t.cap))∧Mem.zb1 w x.t.a (Pl.zq7 (Pl.kAt K Is j+1) x.t.L.length)):=hide (fun j x hx=>by
  have h:=hv j (Pl.mkIt K Is j x) (by rw [Pl.zx5,hx,Option.map_some,if_pos (List.getElem?_eq_some_iff.1 hx).1]);obtain ⟨⟨b,o,h1,h2,h3,h4⟩,h5⟩:=h;refine ⟨⟨b,o,h1,h2,h3,?_⟩,h5⟩;rw [h4]
  simp [Pl.Tr.val,Pl.mkIt,Pl.yg1])
 have HL:=hide hL;have HK2:=hide hK2;have HKG:Hid (∀i,0<Pl.kAt K Is i):=hide (fun i=>Nat.lt_of_lt_of_le hK (Pl.kAt_ge K Is i));have HKS:Hid (∀ (i:Nat) x,Is[i]? =some x→Pl.kAt K Is (i+1)=Pl.kAt K Is i+1+5*x.t.L.length):=hide (fun i x h=>Pl.kAt_succ h);have HK0:Hid (Pl.kAt K Is 0=K):=hide rfl;generalize Pl.kAt K Is=KA at HK2 HKG HKS HV HK0 ⊢;have hK3:=za HK2 Is.length (Nat.le_refl _);clear hL hK2 hv;go_enter Tryz.func98,Tryz.ntmps98
 go_wp2
 go_loopw [1,5] (fun q i wr=>∃j:Nat,j≤Is.length∧i= .int .i64 (j:Int)∧q= .int .i64 (KA j:Int)∧Below w.heap.size w wr) (fun _ i _=>Is.length - (intOf i).toNat)
 case atStart=>exact ⟨0,Nat.zero_le _,rfl,by rw [za HK0],Below.refl _ _⟩
 case round=>
  obtain ⟨j,hj,rfl,rfl,hbel⟩:=hrel;by_cases hlt:j<Is.length
  ·obtain ⟨x,hx⟩:∃x,Is[j]? =some x:=⟨_,List.getElem?_eq_getElem hlt⟩;have u1:(j:Int)<(Is.length:Int):=by omega
   have u3:(0:Int)≤(j:Int):=by omega
   have hkj:=za HK2 j hj;have hks:=za HKS j x hx;have hkk:=za HKG j;obtain ⟨⟨b,o,rfl,hb,q0,q1⟩,q2⟩:=za HV j x hx;have c0:=(hbel.cell (p:=⟨b,_,none⟩) hb).trans q0;have c1:=(hbel.cell (p:=⟨b,_,none⟩) hb).trans q1;have hcall:=hide (zk9.zg9 x.t.a x.t.L.length x.t.cap (KA j+1) wr (za HL x (List.mem_of_getElem? hx)) (by omega) (by omega) (Mem.za9 q2 hbel));have hpos:¬ ((KA j+1+5*x.t.L.length:Nat):Int)<0:=by omega
   have HKS2:=hide hks;clear hx q0 q1 q2 hks;simp only [Int.natCast_add,Int.cast_ofNat_Int] at hcall hpos;go_wp2_with fail
   refine (za hcall).mono ?_;rintro e w2 ⟨rfl,b2⟩;have hb2:=hbel.trans (b2.mono hbel.size);clear hcall b2 c0 c1 hbel;go_wp2
   go_roundw
   case rel=>exact ⟨j+1,by omega,by go_num,by rw [za HKS2];go_num,hb2⟩
   case measure=>simp [intOf];omega
  ·have u1:¬ (j:Int)<(Is.length:Int):=by omega
   obtain rfl:j=Is.length:=by omega
   go_wp2
   go_ret
   exact ⟨rfl,hbel⟩
end WMarkI
end
section
open Go.RowKit
namespace WMkY
theorem zg9 (a:Option Addr) (cap:Nat) (N:List Pl.Ns) (w:World) (hn:N.length≤12) (hI:∀x∈N,x.Is.length≤12∧∀t∈x.Is,t.t.L.length≤40) (hv:Mem.zh w a (Pl.mkZ 1 N N.length)):
  Calls Tryz.prog 66 #[.slice a N.length cap, .int .i64 1] w fun e w'=>e= .returned (.int .i64 (Pl.kZ 1 N N.length:Int))∧Below w.heap.size w w':=by
 have HV:=hide hv;have HI:=hide hI;clear hv hI;go_enter Tryz.func66,Tryz.ntmps66
 go_wp2
 go_loopw [1,5] (fun v i wr=>∃j:Nat,j≤N.length∧i= .int .i64 (j:Int)∧v= .int .i64 (Pl.kZ 1 N j:Int)∧Below w.heap.size w wr) (fun _ i _=>N.length - (intOf i).toNat)
 case atStart=>exact ⟨0,Nat.zero_le _,rfl,rfl,Below.refl _ _⟩
 case round=>
  obtain ⟨j,hj,rfl,rfl,hbel⟩:=hrel;by_cases hlt:j<N.length
  ·obtain ⟨x,hx⟩:∃x,N[j]? =some x:=⟨_,List.getElem?_eq_getElem hlt⟩;obtain ⟨hI1,hI2⟩:=za HI x (List.mem_of_getElem? hx);have hk1:=Pl.kZ_le 1 N (za HI) j (by omega);have hk0:=Pl.kZ_ge 1 N j;have HKS:Hid (Pl.kZ 1 N (j+1)=Pl.kAt (Pl.kZ 1 N j+1) x.Is x.Is.length):=hide (Pl.kZ_succ hx);have hy2:(Pl.mkZ 1 N N.length)[j]? =some (Pl.mkN1 (Pl.kZ 1 N j) x):=by rw [Pl.zr3,hx,Option.map_some,if_pos hlt]
   obtain ⟨⟨g,o,rfl,hg,c0,c1⟩,hit⟩:=(Mem.zg5 (za HV) hbel) j _ hy2
   have hk3:∀i,i≤x.Is.length→Pl.kAt (Pl.kZ 1 N j+1) x.Is i≤100000:=fun i hi=>by
    have :=Pl.kAt_le (Pl.kZ 1 N j+1) x.Is hI2 i hi;omega
   have hkb:Pl.kZ 1 N j≤100000:=by omega
   simp only [Pl.mkN1,Pl.zx8] at c0 c1 hit;have hml:=hide (WMarkI.zg9 x.a x.cap (Pl.kZ 1 N j+1) x.Is wr (by omega) (fun t ht=>by have :=hI2 t ht;omega) (by omega) hk3 hit);have hKE:=Pl.kAt_ge (Pl.kZ 1 N j+1) x.Is x.Is.length;generalize Pl.kAt (Pl.kZ 1 N j+1) x.Is x.Is.length=KE at HKS hml hKE;generalize Pl.kZ 1 N j=KJ at hk1 hk0 HKS hml c0 hkb hKE ⊢;have eK:((KJ+1:Nat):Int)=(KJ:Int)+1:=by omega
   rw [eK] at hml;have u1:(j:Int)<(N.length:Int):=by omega
   have u3:(0:Int)≤(j:Int):=by omega
   have u4:¬ (KE:Int)<0:=by omega
   clear hk3 hx hy2 eK hI1 hI2 hk1 hit hKE;go_wp2_with fail
   refine (za hml).mono ?_;rintro e w2 ⟨rfl,b2⟩;have bN:=hbel.trans (b2.mono hbel.size);clear hml b2 c0 c1;go_wp2
   go_roundw
   case rel=>exact ⟨j+1,by omega,by go_num,by rw [za HKS],bN⟩
   case measure=>simp [intOf];omega
  ·have u1:¬ (j:Int)<(N.length:Int):=by omega
   have hje:j=N.length:=by omega
   subst hje;go_wp2
   go_ret
   exact ⟨rfl,hbel⟩
end WMkY
end
section
open Go.RowKit
namespace Mem
structure Band (Y X:Nat) (w w':World):Prop where
 os:w'.os=w.os
 tape:w'.tape=w.tape
 output:w'.output=w.output
 size:w.heap.size≤w'.heap.size
 block:∀j,j<w.heap.size→(j<Y∨X≤j)→w'.heap[j]? =w.heap[j]?
theorem Band.refl (Y X:Nat) (w:World):Band Y X w w:=⟨rfl,rfl,rfl,Nat.le_refl _,fun _ _ _=>rfl⟩
theorem Band.of_below {Y X:Nat} {w w':World} (b:Below w.heap.size w w'):Band Y X w w':=⟨b.os,b.tape,b.output,b.size,fun j hj _=>b.block j hj⟩
theorem Band.zt3 {Y X g:Nat} {w w':World} (b:w.grownBy w' (some g)) (h1:Y≤g) (h2:g<X):Band Y X w w':=⟨b.os,b.tape,b.output,b.size,fun j hj hh=>b.block j hj (fun e=>by cases e;omega)⟩
theorem Band.trans {Y X:Nat} {w v v':World} (h:Band Y X w v) (h':Band Y X v v'):Band Y X w v':=
 ⟨h'.os.trans h.os,h'.tape.trans h.tape,h'.output.trans h.output,Nat.le_trans h.size h'.size,fun j hj hh=>(h'.block j (Nat.lt_of_lt_of_le hj h.size) hh).trans (h.block j hj hh)⟩
theorem Band.below {Y X B:Nat} {w v v':World} (h:Band Y X v v') (b:Below B w v) (hB:B≤Y) (hs:B≤v.heap.size):Below B w v':=
 ⟨h.os.trans b.os,h.tape.trans b.tape,h.output.trans b.output,Nat.le_trans b.size h.size,fun j hj=>(h.block j (by omega) (.inl (by omega))).trans (b.block j hj)⟩
theorem Band.blk {Y X g:Nat} {w w':World} {cs:Array Value} {T:TypeId} (h:Band Y X w w') (hb:Blk w g cs T) (hg:g<Y∨X≤g):Blk w' g cs T:=(h.block g hb.lt hg).trans hb
theorem Band.row {Y X B e size n:Nat} {w w':World} {v:Value} {xs:List Value} (h:Band Y X w w') (o:w.ownsRow B e size v n xs) (hg:∀g,v.ownBlock=some g→g<Y∨X≤g):w'.ownsRow B e size v n xs:=by
 refine ⟨o.1,?_⟩
 rcases o.2 with h0|⟨g,cap,cur,rfl,hb,hh,rest⟩
 ·exact .inl h0
 ·exact .inr ⟨g,cap,cur,rfl,hb,(h.block g (Array.getElem?_eq_some_iff.1 hh).1 (hg g rfl)).trans hh,rest⟩
theorem Band.of_set {Y X:Nat} {w:World} (p:Addr) (v:Value) (h1:Y≤p.block) (h2:p.block<X):Band Y X w (w.setCell p v):=
 have b:Below 0 w (w.setCell p v):=(Below.refl 0 w).setCell (Nat.zero_le _) v
 ⟨b.os,b.tape,b.output,b.size,fun j _ hh=>heap_setCell_other _ _ _ _ (by omega)⟩
end Mem
end
section
open Go.RowKit
namespace Pl
def third (k:Nat):Bool:=decide (k % 3=0)
theorem third_is (q:Nat):(((q:Int)+1+1) % 3==0)=third (q+2):=by
 unfold third;rw [Bool.eq_iff_iff];simp only [beq_iff_eq,decide_eq_true_eq];omega
def mkMn (K j:Nat):Pl.Mn:=⟨mark (K+3*j),((K+3*j+1:Nat):Int),third (K+3*j+2)⟩
def zu1 (K n:Nat):List Pl.Mn:=(List.range n).map (mkMn K)
theorem mkMns_len (K n:Nat):(zu1 K n).length=n:=by simp [zu1]
theorem mkMns_get (K n j:Nat) (h:j<n):(zu1 K n)[j]? =some (mkMn K j):=by
 unfold zu1;rw [List.getElem?_map,List.getElem?_range h];rfl
end Pl
namespace WMkM
def rowAt (cv:Array Value) (K j:Nat):Prop:=cv[j*3]? =some (.string (Pl.mark (K+3*j)))∧cv[j*3+1]? =some (.int .i64 ((K+3*j+1:Nat):Int))∧cv[j*3+2]? =some (.bool (Pl.third (K+3*j+2)))
theorem row_is {w:World} {g K n:Nat} {cv:Array Value} (h:w.heap[g]? =some (.cells cv 49 (0,0))) (hA:∀j,j<n→rowAt cv K j):Mem.zc6 w (some ⟨g,0,none⟩) (Pl.zu1 K n):=fun i x hi=>by
 have hl:=(List.getElem?_eq_some_iff.1 hi).1;rw [Pl.mkMns_len] at hl;rw [Pl.mkMns_get K n i hl] at hi;cases hi
 obtain ⟨h0,h1,h2⟩:=hA i hl;refine ⟨g,0,rfl,(Array.getElem?_eq_some_iff.1 h).1,?_,?_,?_⟩
 ·rw [cell_of_row w _ _ _ _ (0,0) h,Nat.zero_add];exact h0
 ·rw [cell_of_row w _ _ _ _ (0,0) h,Nat.zero_add];exact h1
 ·rw [cell_of_row w _ _ _ _ (0,0) h,Nat.zero_add];exact h2

theorem zf3 (g n cap K:Nat) (cur:Array Value) (w:World) (hn:n≤1048576) (hK:0<K) (hK2:K≤8500000000000000000) (hrow:w.heap[g]? =some (.cells cur 49 (0,0))) (hsz:n*3≤cur.size):
  Calls Tryz.prog 33 #[.slice (some ⟨g,0,none⟩) n cap, .int .i64 (K:Int)] w fun e w'=>e= .returned (.int .i64 ((K+3*n:Nat):Int))∧
   (∃cur',w'.heap[g]? =some (.cells cur' 49 (0,0))∧cur'.size=cur.size)∧Mem.zc6 w' (some ⟨g,0,none⟩) (Pl.zu1 K n)∧w.grownBy w' (some g):=by
 have HR0:=hide hrow;have HS0:=hide hsz;clear hrow hsz;go_enter Tryz.func33,Tryz.ntmps33
 go_wp2
 go_loopw [1,5] (fun a i wr=>∃ (k q:Nat) (cv:Array Value),k≤n∧q=K+3*k∧i= .int .i64 (k:Int)∧a= .int .i64 (q:Int)∧Hid (wr.heap[g]? =some (.cells cv 49 (0,0)))∧Hid (cv.size=cur.size)∧Hid (w.grownBy wr (some g))∧
   Hid (∀j,j<k→rowAt cv K j)) (fun _ i _=>n - (intOf i).toNat)
 case atStart=>exact ⟨0,K,cur,Nat.zero_le _,rfl,rfl,rfl,HR0,rfl,⟨rfl,rfl,rfl,Nat.le_refl _,fun _ _ _=>rfl⟩,fun j h=>absurd h (by omega)⟩
 case round=>
  obtain ⟨k,q,cv,hk,hq,rfl,rfl,HR,HS,HG,HA⟩:=hrel;by_cases hlt:k<n
  ·have y1:(k:Int)<(n:Int):=by omega
   have y3:(0:Int)≤(k:Int):=by omega
   have HM:=hide (fun W=>zk4.zf3 q W (by omega) (by omega));have HQ:=hide hq;have q1:(q:Int)≤9000000000000000000:=by omega
   clear hq;have hcz:n*3≤cv.size:=by rw [za HS];exact za HS0
   have HCZ:=hide hcz;clear hcz;go_wp2_with fail
   refine (za HM _).mono ?_;rintro e w2 ⟨rfl,b2⟩;have hg:g<wr.heap.size:=(Array.getElem?_eq_some_iff.1 (za HR)).1;have HR2:=hide ((b2.block _ hg).trans (za HR));have hcz:=za HCZ;have s0:∃x,w2.cell? ⟨g,k*3,none⟩=some x:=⟨_,(cell_of_row w2 _ (k*3) _ _ (0,0) (za HR2)).trans (Array.getElem?_eq_getElem (by omega))⟩;have s1:∃x,w2.cell? ⟨g,k*3+1,none⟩=some x:=⟨_,(cell_of_row w2 _ (k*3+1) _ _ (0,0) (za HR2)).trans (Array.getElem?_eq_getElem (by omega))⟩;have s2:∃x,w2.cell? ⟨g,k*3+2,none⟩=some x:=⟨_,(cell_of_row w2 _ (k*3+2) _ _ (0,0) (za HR2)).trans (Array.getElem?_eq_getElem (by omega))⟩;obtain ⟨x0,s0⟩:=s0;obtain ⟨x1,s1⟩:=s1;obtain ⟨x2,s2⟩:=s2;have f0:∀j,w2.frozen? ⟨g,j,none⟩=false:=fun j=>Mem.zc2 (za HR2);have HG2:=hide (zk9.zw3 (za HG) b2);clear b2 HR HG hcz hg HM;go_wp2
   go_roundw
   case rel=>
    refine ⟨k+1,q+3,_,by omega,by have :=za HQ;omega,by go_num,by go_num,hide (heap_setCell_same _ _ (k*3+2) _ _ _ (heap_setCell_same _ _ (k*3+1) _ _ _ (heap_setCell_same _ _ (k*3) _ _ _ (za HR2)))),?_,hide (zk9.za2 (zk9.za2 (zk9.za2 (za HG2)))),?_⟩
    ·exact hide (by simpa using za HS)
    ·intro j hj;have hcz:=za HCZ
     rcases Nat.lt_succ_iff_lt_or_eq.1 hj with h''|rfl
     ·obtain ⟨i0,i1,i2⟩:=HA.out j h'';simp only [rowAt,Array.getElem?_setIfInBounds];refine ⟨?_,?_,?_⟩ <;> (repeat (rw [if_neg (by omega)])) <;> assumption
     ·have hq:=za HQ;simp only [rowAt,Array.getElem?_setIfInBounds,Array.size_setIfInBounds,←hq];refine ⟨by simp;omega,by simp;omega,?_⟩;simp
      exact ⟨by omega,Pl.third_is q⟩
   case measure=>simp [intOf];omega
  ·obtain rfl:k=n:=by omega
   have y1:¬ (k:Int)<(k:Int):=by omega
   have hq2:(q:Int)=((K+3*k:Nat):Int):=by omega
   have HQ:=hide hq2;have HI:=hide (row_is (za HR) (za HA));clear hq hq2;go_wp2
   go_ret
   exact ⟨(by rw [za HQ];first |done|rfl),⟨cv,za HR,za HS⟩,za HI,za HG⟩
end WMkM
end
section
open Go.RowKit
namespace WMkM
theorem zg9 (a:Option Addr) (n cap K:Nat) (w:World) (hn:n≤1048576) (hK:0<K) (hK2:K≤1000000) (hv:Mem.zc6 w a (Pl.zu1 K n)):
  Calls Tryz.prog 67 #[.slice a n cap, .int .i64 (K:Int)] w fun e w'=>e= .returned (.int .i64 ((K+3*n:Nat):Int))∧Below w.heap.size w w':=by
 have HV:=hide hv;clear hv;go_enter Tryz.func67,Tryz.ntmps67
 go_wp2
 go_loopw [1,5] (fun v i wr=>∃ (k q:Nat),k≤n∧q=K+3*k∧i= .int .i64 (k:Int)∧v= .int .i64 (q:Int)∧Below w.heap.size w wr) (fun _ i _=>n - (intOf i).toNat)
 case atStart=>exact ⟨0,K,Nat.zero_le _,rfl,rfl,rfl,Below.refl _ _⟩
 case round=>
  obtain ⟨k,q,hk,hq,rfl,rfl,hbel⟩:=hrel;by_cases hlt:k<n
  ·have y1:(k:Int)<(n:Int):=by omega
   have y3:(0:Int)≤(k:Int):=by omega
   have hg0:=Pl.mkMns_get K n k hlt;simp only [Pl.mkMn,←hq] at hg0;obtain ⟨g,o,rfl,hg,c0,c1,c2⟩:=(Mem.zf0 (za HV) hbel) k _ hg0;simp only at c0 c1 c2;rw [show ((q+1:Nat):Int)=(q:Int)+1 by omega] at c1;rw [←Pl.third_is] at c2;have HM:=hide (fun W=>zk4.zf3 q W (by omega) (by omega));have HQ:=hide hq;have q1:(q:Int)≤100000000:=by omega
   clear hq hg0;have MK:Hid (∀W',Below wr.heap.size wr W'→(Below wr.heap.size wr W'∧W'.cell? ⟨g,o+k*3,none⟩=some (.string (Pl.mark q)))):=fun W' b=>⟨b,(b.cell (p:=⟨g,_,none⟩) hg).trans c0⟩;go_upto_region 4 with fail
   refine RG MK (bD _) fun hHeld=>?_;generalize wr.drew=D0 at hHeld ⊢;refine TB 0 ?_;refine TB 1 ?_;refine TB 2 ?_;refine TB 3 ?_;refine TB 4 ?_;refine TB 5 ?_;refine RN 6 fun K hK=>?_;go_simp
   refine (za HM _).mono ?_;rintro e D1 ⟨rfl,bX⟩;refine hK.out _ _ ?_ (fun hHeld=>?_)
   ·exact za MK _ (hHeld.1.trans (bX.mono hHeld.1.size))
   clear hK K bX
   try simp only [Act.put,kBs]
   refine TB 7 ?_;refine wpAnyH_done (by kernel_rfl) ?_ _;have b1:=hHeld.1;clear hHeld;have bN:=hbel.trans (b1.mono hbel.size);replace c1:=(b1.cell (p:=⟨g,_,none⟩) hg).trans c1;replace c2:=(b1.cell (p:=⟨g,_,none⟩) hg).trans c2;clear c0 MK b1;go_wp2
   go_roundw
   case rel=>exact ⟨k+1,q+3,by omega,by have :=za HQ;omega,by go_num,by go_num,bN⟩
   case measure=>simp [intOf];omega
  ·obtain rfl:k=n:=by omega
   have y1:¬ (k:Int)<(k:Int):=by omega
   have hq2:(q:Int)=((K+3*k:Nat):Int):=by omega
   have HQ:=hide hq2;clear hq hq2;go_wp2
   go_ret
   exact ⟨(by rw [za HQ];first |done|rfl),hbel⟩
end WMkM
end
section
open Go.RowKit
namespace Pl
def mkHn (K j:Nat):Pl.Hn:=⟨((K+3*j:Nat):Int),((K+3*j+1:Nat):Int),mark (K+3*j+2)⟩
def mkHns (K n:Nat):List Pl.Hn:=(List.range n).map (mkHn K)
theorem mkHns_len (K n:Nat):(mkHns K n).length=n:=by simp [mkHns]
theorem mkHns_get (K n j:Nat) (h:j<n):(mkHns K n)[j]? =some (mkHn K j):=by
 unfold mkHns;rw [List.getElem?_map,List.getElem?_range h];rfl
end Pl
namespace WMkH
def rowAt (cv:Array Value) (K j:Nat):Prop:=cv[j*3]? =some (.int .i64 ((K+3*j:Nat):Int))∧cv[j*3+1]? =some (.int .i64 ((K+3*j+1:Nat):Int))∧cv[j*3+2]? =some (.string (Pl.mark (K+3*j+2)))
theorem row_is {w:World} {g K n:Nat} {cv:Array Value} (h:w.heap[g]? =some (.cells cv 113 (0,0))) (hA:∀j,j<n→rowAt cv K j):Mem.ze2 w (some ⟨g,0,none⟩) (Pl.mkHns K n):=fun i x hi=>by
 have hl:=(List.getElem?_eq_some_iff.1 hi).1;rw [Pl.mkHns_len] at hl;rw [Pl.mkHns_get K n i hl] at hi;cases hi
 obtain ⟨h0,h1,h2⟩:=hA i hl;refine ⟨g,0,rfl,(Array.getElem?_eq_some_iff.1 h).1,?_,?_,?_⟩
 ·rw [cell_of_row w _ _ _ _ (0,0) h,Nat.zero_add];exact h0
 ·rw [cell_of_row w _ _ _ _ (0,0) h,Nat.zero_add];exact h1
 ·rw [cell_of_row w _ _ _ _ (0,0) h,Nat.zero_add];exact h2

theorem zf3 (g n cap K:Nat) (cur:Array Value) (w:World) (hn:n≤1048576) (hK:0<K) (hK2:K≤8500000000000000000) (hrow:w.heap[g]? =some (.cells cur 113 (0,0))) (hsz:n*3≤cur.size):
  Calls Tryz.prog 34 #[.slice (some ⟨g,0,none⟩) n cap, .int .i64 (K:Int)] w fun e w'=>e= .returned (.int .i64 ((K+3*n:Nat):Int))∧
   (∃cur',w'.heap[g]? =some (.cells cur' 113 (0,0))∧cur'.size=cur.size)∧Mem.ze2 w' (some ⟨g,0,none⟩) (Pl.mkHns K n)∧w.grownBy w' (some g):=by
 have HR0:=hide hrow;have HS0:=hide hsz;clear hrow hsz;go_enter Tryz.func34,Tryz.ntmps34
 go_wp2
 go_loopw [1,5] (fun a i wr=>∃ (k q:Nat) (cv:Array Value),k≤n∧q=K+3*k∧i= .int .i64 (k:Int)∧a= .int .i64 (q:Int)∧Hid (wr.heap[g]? =some (.cells cv 113 (0,0)))∧Hid (cv.size=cur.size)∧Hid (w.grownBy wr (some g))∧
   Hid (∀j,j<k→rowAt cv K j)) (fun _ i _=>n - (intOf i).toNat)
 case atStart=>exact ⟨0,K,cur,Nat.zero_le _,rfl,rfl,rfl,HR0,rfl,⟨rfl,rfl,rfl,Nat.le_refl _,fun _ _ _=>rfl⟩,fun j h=>absurd h (by omega)⟩
 case round=>
  obtain ⟨k,q,cv,hk,hq,rfl,rfl,HR,HS,HG,HA⟩:=hrel;by_cases hlt:k<n
  ·have y1:(k:Int)<(n:Int):=by omega
   have y3:(0:Int)≤(k:Int):=by omega
   have HM:=hide (fun W=>zk4.zf3 (q+2) W (by omega) (by omega));rw [show ((q+2:Nat):Int)=(q:Int)+1+1 by omega] at HM;have HQ:=hide hq;have q1:(q:Int)≤9000000000000000000:=by omega
   clear hq;have hcz:n*3≤cv.size:=by rw [za HS];exact za HS0
   have HCZ:=hide hcz;clear hcz;have hg:g<wr.heap.size:=(Array.getElem?_eq_some_iff.1 (za HR)).1;have hcz:=za HCZ;have s0:∃x,wr.cell? ⟨g,k*3,none⟩=some x:=⟨_,(cell_of_row wr _ (k*3) _ _ (0,0) (za HR)).trans (Array.getElem?_eq_getElem (by omega))⟩;have s1:∃x,wr.cell? ⟨g,k*3+1,none⟩=some x:=⟨_,(cell_of_row wr _ (k*3+1) _ _ (0,0) (za HR)).trans (Array.getElem?_eq_getElem (by omega))⟩;obtain ⟨x0,s0⟩:=s0;obtain ⟨x1,s1⟩:=s1;have f0:∀j,wr.frozen? ⟨g,j,none⟩=false:=fun j=>Mem.zc2 (za HR);clear hcz hg;go_wp2_with fail
   have HR1:=hide (heap_setCell_same _ _ (k*3+1) _ _ (.int .i64 ((q:Int)+1)) (heap_setCell_same _ _ (k*3) _ _ (.int .i64 (q:Int)) (za HR)));have HG1:=hide (zk9.za2 (o:=k*3+1) (x:= .int .i64 ((q:Int)+1)) (zk9.za2 (o:=k*3) (x:= .int .i64 (q:Int)) (za HG)));refine (za HM _).mono ?_;rintro e w2 ⟨rfl,b2⟩;have HR2:=hide ((b2.block _ (Array.getElem?_eq_some_iff.1 (za HR1)).1).trans (za HR1));have HG2:=hide (zk9.zw3 (za HG1) b2);have hcz:=za HCZ;have s2:∃x,w2.cell? ⟨g,k*3+2,none⟩=some x:=⟨_,(cell_of_row w2 _ (k*3+2) _ _ (0,0) (za HR2)).trans (Array.getElem?_eq_getElem (by simp;omega))⟩;obtain ⟨x2,s2⟩:=s2;have f2:∀j,w2.frozen? ⟨g,j,none⟩=false:=fun j=>Mem.zc2 (za HR2);clear b2 HR HG HR1 HG1 hcz HM s0 s1 f0;go_wp2
   go_roundw
   case rel=>
    refine ⟨k+1,q+3,_,by omega,by have :=za HQ;omega,by go_num,by go_num,hide (heap_setCell_same _ _ (k*3+2) _ _ _ (za HR2)),?_,hide (zk9.za2 (za HG2)),?_⟩
    ·exact hide (by simpa using za HS)
    ·intro j hj;have hcz:=za HCZ
     rcases Nat.lt_succ_iff_lt_or_eq.1 hj with h''|rfl
     ·obtain ⟨i0,i1,i2⟩:=HA.out j h'';simp only [rowAt,Array.getElem?_setIfInBounds];refine ⟨?_,?_,?_⟩ <;> (repeat (rw [if_neg (by omega)])) <;> assumption
     ·have hq:=za HQ;simp only [rowAt,Array.getElem?_setIfInBounds,Array.size_setIfInBounds,←hq];refine ⟨?_,?_,?_⟩ <;> simp <;> omega
   case measure=>simp [intOf];omega
  ·obtain rfl:k=n:=by omega
   have y1:¬ (k:Int)<(k:Int):=by omega
   have hq2:(q:Int)=((K+3*k:Nat):Int):=by omega
   have HQ:=hide hq2;have HI:=hide (row_is (za HR) (za HA));clear hq hq2;go_wp2
   go_ret
   exact ⟨(by rw [za HQ];first |done|rfl),⟨cv,za HR,za HS⟩,za HI,za HG⟩
end WMkH
end
section
open Go.RowKit
namespace WMkH
theorem zg9 (a:Option Addr) (n cap K:Nat) (w:World) (hn:n≤1048576) (hK:0<K) (hK2:K≤1000000) (hv:Mem.ze2 w a (Pl.mkHns K n)):
  Calls Tryz.prog 68 #[.slice a n cap, .int .i64 (K:Int)] w fun e w'=>e= .returned (.int .i64 ((K+3*n:Nat):Int))∧Below w.heap.size w w':=by
 have HV:=hide hv;clear hv;go_enter Tryz.func68,Tryz.ntmps68
 go_wp2
 go_loopw [1,5] (fun v i wr=>∃ (k q:Nat),k≤n∧q=K+3*k∧i= .int .i64 (k:Int)∧v= .int .i64 (q:Int)∧Below w.heap.size w wr) (fun _ i _=>n - (intOf i).toNat)
 case atStart=>exact ⟨0,K,Nat.zero_le _,rfl,rfl,rfl,Below.refl _ _⟩
 case round=>
  obtain ⟨k,q,hk,hq,rfl,rfl,hbel⟩:=hrel;by_cases hlt:k<n
  ·have y1:(k:Int)<(n:Int):=by omega
   have y3:(0:Int)≤(k:Int):=by omega
   have hg0:=Pl.mkHns_get K n k hlt;simp only [Pl.mkHn,←hq] at hg0;obtain ⟨g,o,rfl,hg,c0,c1,c2⟩:=(Mem.zg7 (za HV) hbel) k _ hg0;simp only at c0 c1 c2;rw [show ((q+1:Nat):Int)=(q:Int)+1 by omega] at c1;have HM:=hide (fun W=>zk4.zf3 (q+2) W (by omega) (by omega));rw [show ((q+2:Nat):Int)=(q:Int)+1+1 by omega] at HM;have HQ:=hide hq;have q1:(q:Int)≤100000000:=by omega
   clear hq hg0;have MK:Hid (∀W',Below wr.heap.size wr W'→(Below wr.heap.size wr W'∧W'.cell? ⟨g,o+k*3+2,none⟩=some (.string (Pl.mark (q+2))))):=fun W' b=>⟨b,(b.cell (p:=⟨g,_,none⟩) hg).trans c2⟩;go_upto_region 10 with fail
   refine RG MK (bD _) fun hHeld=>?_;generalize wr.drew=D0 at hHeld ⊢;refine TB 0 ?_;refine TB 1 ?_;refine TB 2 ?_;refine TB 3 ?_;refine TB 4 ?_;refine TB 5 ?_;refine RN 6 fun K hK=>?_;go_simp
   refine (za HM _).mono ?_;rintro e D1 ⟨rfl,bX⟩;refine hK.out _ _ ?_ (fun hHeld=>?_)
   ·exact za MK _ (hHeld.1.trans (bX.mono hHeld.1.size))
   clear hK K bX
   try simp only [Act.put,kBs]
   refine TB 7 ?_;refine wpAnyH_done (by kernel_rfl) ?_ _;have b1:=hHeld.1;clear hHeld;have bN:=hbel.trans (b1.mono hbel.size);clear c0 c1 c2 MK b1;go_wp2
   go_roundw
   case rel=>exact ⟨k+1,q+3,by omega,by have :=za HQ;omega,by go_num,by go_num,bN⟩
   case measure=>simp [intOf];omega
  ·obtain rfl:k=n:=by omega
   have y1:¬ (k:Int)<(k:Int):=by omega
   have hq2:(q:Int)=((K+3*k:Nat):Int):=by omega
   have HQ:=hide hq2;clear hq hq2;go_wp2
   go_ret
   exact ⟨(by rw [za HQ];first |done|rfl),hbel⟩
end WMkH
end
section
open Go.RowKit
namespace Pl
def Mn.cs (n:Mn):List Value:=[.string n.p, .int .i64 n.i, .bool n.z]
def Hn.cs (n:Hn):List Value:=[.int .i64 n.d, .int .i64 n.i, .string n.p]
theorem Mn.three (n:Mn):n.cs.length=3:=rfl
theorem Hn.three (n:Hn):n.cs.length=3:=rfl
def cells3 {α:Type} (cs:α→List Value) (L:List α):List Value:=L.flatMap cs
theorem yh5 {α:Type} (cs:α→List Value) (n:α) (L:List α):cells3 cs (n::L)=cs n++cells3 cs L:=by simp [cells3]
theorem yd3 {α:Type} {cs:α→List Value} (h3:∀x,(cs x).length=3) (L:List α):(cells3 cs L).length=L.length*3:=by
 induction L with
 |nil=>rfl
 |cons n L ih=>rw [yh5,List.length_append,ih,List.length_cons,h3];omega
theorem yj3 {α:Type} {cs:α→List Value} (h3:∀x,(cs x).length=3) (L:List α) (i:Nat) (n:α) (h:L[i]? =some n) (j:Nat) (hj:j<3):(cells3 cs L)[i*3+j]? =(cs n)[j]?:=by
 induction L generalizing i with
 |nil=>simp at h
 |cons m L ih=>
  rw [yh5]
  match i,h with
  |0,h=>
   simp at h;subst h
   rw [List.getElem?_append_left (by rw [h3];omega)];simp
  |i+1,h=>
   rw [List.getElem?_append_right (by rw [h3];omega),h3,show (i+1)*3+j - 3=i*3+j by omega];exact ih i (by simpa using h)
end Pl
namespace Mem
def ya0 {α:Type} (cs:α→List Value) (w:World) (a:Option Addr) (L:List α):Prop:=
 ∀ (i:Nat) x,L[i]? =some x→∃b o,a=some ⟨b,o,none⟩∧b<w.heap.size∧∀j u,(cs x)[j]? =some u→w.cell? ⟨b,o+i*3+j,none⟩=some u
theorem row_of_mounts {w:World} {a:Option Addr} {L:List Pl.Mn} (h:zc6 w a L):ya0 Pl.Mn.cs w a L:=fun i x hi=>by
 obtain ⟨b,o,h1,h2,h3,h4,h5⟩:=h i x hi;refine ⟨b,o,h1,h2,fun j u hj=>?_⟩
 match j,hj with
 |0,hj=>cases hj;exact h3
 |1,hj=>cases hj;exact h4
 |2,hj=>cases hj;exact h5
 |j+3,hj=>simp [Pl.Mn.cs] at hj
theorem row_of_hands {w:World} {a:Option Addr} {L:List Pl.Hn} (h:ze2 w a L):ya0 Pl.Hn.cs w a L:=fun i x hi=>by
 obtain ⟨b,o,h1,h2,h3,h4,h5⟩:=h i x hi;refine ⟨b,o,h1,h2,fun j u hj=>?_⟩
 match j,hj with
 |0,hj=>cases hj;exact h3
 |1,hj=>cases hj;exact h4
 |2,hj=>cases hj;exact h5
 |j+3,hj=>simp [Pl.Hn.cs] at hj
theorem yd5 {w:World} {a:Option Addr} {L:List Pl.Mn} (h:ya0 Pl.Mn.cs w a L):zc6 w a L:=fun i x hi=>by
 obtain ⟨b,o,h1,h2,h3⟩:=h i x hi;exact ⟨b,o,h1,h2,h3 0 _ rfl,h3 1 _ rfl,h3 2 _ rfl⟩
theorem yd6 {w:World} {a:Option Addr} {L:List Pl.Hn} (h:ya0 Pl.Hn.cs w a L):ze2 w a L:=fun i x hi=>by
 obtain ⟨b,o,h1,h2,h3⟩:=h i x hi;exact ⟨b,o,h1,h2,h3 0 _ rfl,h3 1 _ rfl,h3 2 _ rfl⟩
theorem cells3_at {α:Type} {cs:α→List Value} (h3:∀x,(cs x).length=3) {w:World} {g o:Nat} {M:List α} (h:ya0 cs w (some ⟨g,o,none⟩) M):∀j u,(Pl.cells3 cs M)[j]? =some u→w.cell? ((⟨g,o,none⟩:Addr).add j)=some u:=by
 intro j u hj
 have hlt:j<M.length*3:=by
  have :=(List.getElem?_eq_some_iff.1 hj).1
  rwa [Pl.yd3 h3] at this
 have hd:j / 3<M.length:=by omega
 have hx:M[j / 3]? =some M[j / 3]:=List.getElem?_eq_getElem hd;obtain ⟨b,o',e,h2,h4⟩:=h (j / 3) _ hx;cases e
 have h5:=Pl.yj3 h3 M (j / 3) _ hx (j % 3) (by omega);rw [show j / 3*3+j % 3=j by omega,hj] at h5;have h6:=h4 (j % 3) u h5.symm;rw [show o+j / 3*3+j % 3=o+j by omega] at h6;rw [Mem.zr2];exact h6
theorem cs3_one {α:Type} {cs:α→List Value} (h1:∀x,∀u∈cs x,u.oneCell'=true) (M:List α):∀u∈Pl.cells3 cs M,u.oneCell'=true:=by
 intro u hu;rw [Pl.cells3,List.mem_flatMap] at hu;obtain ⟨x, -,h⟩:=hu;exact h1 x u h
theorem mn_one (n:Pl.Mn):∀u∈n.cs,u.oneCell'=true:=by
 intro u hu;simp only [Pl.Mn.cs,List.mem_cons,List.not_mem_nil,or_false] at hu
 rcases hu with rfl |rfl |rfl <;> rfl
theorem hn_one (n:Pl.Hn):∀u∈n.cs,u.oneCell'=true:=by
 intro u hu;simp only [Pl.Hn.cs,List.mem_cons,List.not_mem_nil,or_false] at hu
 rcases hu with rfl |rfl |rfl <;> rfl
def own3 {α:Type} (T:TypeId) (cs:α→List Value) (w:World) (B:Nat) (v:Value) (L:List α):Prop:=w.ownsRow B T 3 v L.length (Pl.cells3 cs L)
theorem yb8 {α:Type} (T:TypeId) (cs:α→List Value) (w:World) (B:Nat):own3 T cs w B (.slice none 0 0) []:=⟨rfl, .inl ⟨rfl,rfl⟩⟩
theorem own3_is {α:Type} {T:TypeId} {cs:α→List Value} (h3:∀x,(cs x).length=3) {w:World} {B:Nat} {v:Value} {L:List α} (h:own3 T cs w B v L):∃a cap,v= .slice a L.length cap∧ya0 cs w a L∧L.length≤cap∧((a=none∧cap=0∧L=[])∨∃g,a=some ⟨g,0,none⟩∧B≤g∧g<w.heap.size):=by
 rcases h.2 with ⟨rfl,h0⟩|⟨g,cap,cur,rfl,hb,hg,hc,hm,hsz,ht⟩
 ·have e:=List.length_eq_zero_iff.1 h0;exact ⟨none,0,by rw [h0],fun i n hi=>by rw [e] at hi;simp at hi,by omega, .inl ⟨rfl,rfl,e⟩⟩
 ·have hgl:=(Array.getElem?_eq_some_iff.1 hg).1;refine ⟨some ⟨g,0,none⟩,cap,rfl,fun i n hi=>?_,by omega, .inr ⟨g,rfl,hb,hgl⟩⟩;have hlt:i<L.length:=(List.getElem?_eq_some_iff.1 hi).1;refine ⟨g,0,rfl,hgl,fun j u hj=>?_⟩;have hj3:j<3:=by have :=(List.getElem?_eq_some_iff.1 hj).1;rwa [h3] at this
  rw [cell_of_row w g _ cur _ (0,0) hg,Nat.zero_add,←hj,←Pl.yj3 h3 L i n hi j hj3,←ht,List.getElem?_take_of_lt (by omega),Array.getElem?_toList]
theorem zm {α:Type} {T:TypeId} {cs:α→List Value} {w w':World} {B:Nat} {v:Value} {L:List α} (h:own3 T cs w B v L) (b:Below w.heap.size w w'):own3 T cs w' B v L:=
 World.ownsRow.kept h (za4 b none) (Classical.em _)
theorem own3_mono {α:Type} {T:TypeId} {cs:α→List Value} {w:World} {B B':Nat} {v:Value} {L:List α} (h:own3 T cs w B v L) (hb:B'≤B):own3 T cs w B' v L:=zg h hb
end Mem
end
section
open Go.RowKit Go.Maps
namespace MapI
def key (d:Int):Lit:= .int .i64 d
def i64 (d:Int):Prop:= -9223372036854775808≤d∧d≤9223372036854775807
theorem wf_of {d:Int} (h:i64 d):(Lit.int .i64 d).wf=true:=by
 obtain ⟨h1,h2⟩:=h;have e1:IntKind.i64.min= -9223372036854775808:=by decide
 have e2:IntKind.i64.max=9223372036854775807:=by decide
 simp only [Lit.wf,e1,e2,Bool.and_eq_true,decide_eq_true_eq];omega
def elem (v:Value):Option (DataW Value × List MemPlace):=some (.held v,[])
def dat (v:Value):DataW Value:= .held v
theorem zt2 (v:Value):elem v=some (dat v,[]):=rfl
theorem zt7 {a b:Value} (h:dat a=dat b):a=b:=by unfold dat at h;exact DataW.held.inj h
def mapOf (C:List (Int × Value)):DataW Value:=C.foldl (fun D n=>D.put (key n.1) (dat n.2)) (.map [])
theorem yc3 (C:List (Int × Value)) (n:Int × Value):mapOf (C++[n])=(mapOf C).put (key n.1) (dat n.2):=by simp [mapOf,List.foldl_append]
theorem ya1 (p:Int):WideAt.IsKeyLit (key p):=by simp [key,WideAt.IsKeyLit]
theorem key_ne {a b:Int} (h:a≠b):key a≠key b:=fun e=>h (by unfold key at e;exact (Lit.int.inj e).2)
theorem ya7:∀ (C:List (Int × Value)) (D:DataW Value),IsMap D→IsMap (C.foldl (fun D n=>D.put (key n.1) (dat n.2)) D):=by
 intro C
 induction C with
 |nil=>intro D h;exact h
 |cons n C ih=>intro D h;exact ih _ (h.put _ _)
theorem zq5 (C:List (Int × Value)):IsMap (mapOf C):=ya7 C _ isMap_empty
theorem zm1 (p:Int):∀ (C:List (Int × Value)) (D:DataW Value),(∀n∈C,n.1≠p)→Maps.has (C.foldl (fun D n=>D.put (key n.1) (dat n.2)) D) (key p)=Maps.has D (key p)∧∀z,(C.foldl (fun D n=>D.put (key n.1) (dat n.2)) D).atKey (key p) z=D.atKey (key p) z:=by
 intro C
 induction C with
 |nil=>intro D _;exact ⟨rfl,fun _=>rfl⟩
 |cons n C ih=>
  intro D h;have h1:key p≠key n.1:=key_ne (fun e=>h n List.mem_cons_self e.symm);obtain ⟨i1,i2⟩:=ih (D.put (key n.1) (dat n.2)) (fun m hm=>h m (List.mem_cons_of_mem _ hm));refine ⟨?_,fun z=>?_⟩
  ·show Maps.has (C.foldl _ (D.put (key n.1) (dat n.2))) (key p)=_;rw [i1,has_put_other h1]
  ·show (C.foldl _ (D.put (key n.1) (dat n.2))).atKey (key p) z=_;rw [i2,atKey_put_other h1]
theorem has_no {C:List (Int × Value)} {p:Int} (h:p∉C.map (·.1)):Maps.has (mapOf C) (key p)=false:=by
 rw [mapOf,(zm1 p C _ (fun n hn e=>h (List.mem_map.2 ⟨n,hn,e⟩))).1];rfl
theorem at_no {C:List (Int × Value)} {p:Int} (h:p∉C.map (·.1)) (z:DataW Value):(mapOf C).atKey (key p) z=z:=by
 rw [mapOf,(zm1 p C _ (fun n hn e=>h (List.mem_map.2 ⟨n,hn,e⟩))).2];rfl
theorem zz8 {C:List (Int × Value)} {n:Int × Value} (hC:C.Pairwise (fun a b=>a.1≠b.1)) (hn:n∈C):Maps.has (mapOf C) (key n.1)=true∧∀z,(mapOf C).atKey (key n.1) z=dat n.2:=by
 obtain ⟨A,B,rfl⟩:=List.append_of_mem hn;rw [List.pairwise_append] at hC;have h2:=(List.pairwise_cons.1 hC.2.1).1;have e:mapOf (A++n::B)=B.foldl (fun D n=>D.put (key n.1) (dat n.2)) ((mapOf A).put (key n.1) (dat n.2)):=by simp [mapOf,List.foldl_append]
 obtain ⟨i1,i2⟩:=zm1 n.1 B ((mapOf A).put (key n.1) (dat n.2)) (fun m hm e=>h2 m hm e.symm);rw [e];exact ⟨by rw [i1,has_put_same (zq5 A) (ya1 _)],fun z=>by rw [i2,atKey_put_same (zq5 A) (ya1 _)]⟩
def getV (C:List (Int × Value)) (d:Int) (z:Value):Value:=match C.find? (fun n=>decide (n.1=d)) with |some n=>n.2|none=>z
theorem look {C:List (Int × Value)} (hC:C.Pairwise (fun a b=>a.1≠b.1)) (d:Int) (z:Value):Maps.has (mapOf C) (key d)=decide (d∈C.map (·.1))∧(mapOf C).atKey (key d) (dat z)=dat (getV C d z):=by
 unfold getV;by_cases h:d∈C.map (·.1)
 ·obtain ⟨n,hn,rfl⟩:=List.mem_map.1 h;obtain ⟨h1,h2⟩:=zz8 hC hn;rw [h1,h2];refine ⟨by simp [h],?_⟩;cases hf:C.find? (fun m=>decide (m.1=n.1)) with
  |none=>exact absurd (List.find?_eq_none.1 hf n hn) (by simp)
  |some m=>
   have h3:=List.find?_some hf;have h4:=List.mem_of_find?_eq_some hf
   have e:m=n:=by
    by_cases e:m=n
    ·exact e
    ·exfalso;obtain ⟨i,hi,e1⟩:=List.mem_iff_getElem.1 hn;obtain ⟨j,hj,e2⟩:=List.mem_iff_getElem.1 h4;have h5:=List.pairwise_iff_getElem.1 hC
     rcases Nat.lt_trichotomy i j with hij|hij|hij
     ·exact h5 i j hi hj hij (by rw [e1,e2];exact (of_decide_eq_true h3).symm)
     ·subst hij;exact e (e2.symm.trans e1)
     ·exact h5 j i hj hi hij (by rw [e1,e2];exact of_decide_eq_true h3)
   subst e;rfl
 ·rw [has_no h,at_no h];refine ⟨by simp [h],?_⟩;cases hf:C.find? (fun m=>decide (m.1=d)) with
  |none=>rfl
  |some m=>have h3:=List.find?_some hf;simp only [decide_eq_true_eq] at h3;exact absurd (List.mem_map.2 ⟨m,List.mem_of_find?_eq_some hf,h3⟩) h
theorem law:Keyed Tryz.prog 2:=int_keyed Tryz.underlying2
theorem zo0 {d:Int} (h:i64 d):keyOf Tryz.prog 2 (.int .i64 d)=some (key d):=keyOf_int_mk Tryz.underlying2 (wf_of h)
theorem look_ok {P:Program} (w:World) {ops:Array Oper} {rest:List Oper} {o:Oper} {a:Act} {Q:Exit→Act→World→Prop} (hg:o.guard=none) (m x:Operand) (t:TypeId) (hop:o.op=Op.lookup t m x true)
  (k e:TypeId) (K:Keyed P k) (ht:P.underlying t=some (.map k e)) (z:Value) (hz:(zeroValue e).run P w= .ok z w) (b n:Nat) (D:DataW Value)
  (hm:a.eval m= .map (some b)) (hown:w.ownsMap P k elem b n D) (kv:Value) (kl:Lit) (hx:a.eval x=kv) (hkey:keyOf P k kv=some kl) (v:Value) (hat:D.atKey kl (dat z)=dat v) (r:Bool) (hr:Maps.has D kl=r)
  (hK:wpList P ops Q rest (a.put o.dst (.tuple #[v, .bool r])) w):
  wpList P ops Q (o::rest) a w:=by
 refine wpList_plain hg fun K' hK'=>?_;obtain ⟨v1,ps,hrun,hv⟩:=hown.look_ok K ht hz (zt2 _) hkey
 have hd:v1=v:=by
  unfold elem at hv;simp only [Option.some.injEq,Prod.mk.injEq] at hv;rw [hat] at hv;exact zt7 hv.1
 subst hd;subst hr;unfold Oper.wp;simp [execOp,hop,hm,hx,hrun,Result.andThen]
 exact hK' _ _ hK
theorem zf9 {w w':World} {B n:Nat} {D:DataW Value} (h:w.ownsMap Tryz.prog 2 elem B n D) (b:Below w.heap.size w w'):w'.ownsMap Tryz.prog 2 elem B n D:=
 h.kept (row:=none) ⟨b.os,b.tape,b.output,b.size,fun j hj _=>b.block j hj⟩ (by simp)
end MapI
end
section
open Go.RowKit Go.Maps
namespace Pl
structure Nv where
 m:Option Nat
 n:Nat
 a:Option Addr
 cap:Nat
def Nv.val (x:Nv):Value:= .agg #[.map x.m, .int .i64 (x.n:Int), .slice x.a x.n x.cap]
def vals (E:List (Int × Nv)):List (Int × Value):=E.map (fun x=>(x.1,x.2.val))
def getN (E:List (Int × Nv)) (d:Int):Nv:=match E.find? (fun x=>decide (x.1=d)) with |some x=>x.2|none=>⟨none,0,none,0⟩
theorem vals_ids (E:List (Int × Nv)):(vals E).map (·.1)=E.map (·.1):=by simp [vals,List.map_map]
theorem vals_apart {E:List (Int × Nv)} (h:E.Pairwise (fun a b=>a.1≠b.1)):(vals E).Pairwise (fun a b=>a.1≠b.1):=by
 unfold vals;rw [List.pairwise_map];exact h
theorem get_vals (E:List (Int × Nv)) (d:Int):MapI.getV (vals E) d (Nv.val ⟨none,0,none,0⟩)=(getN E d).val:=by
 unfold MapI.getV getN vals;rw [List.find?_map];have e:((fun n:Int × Value=>decide (n.1=d)) ∘ fun x:Int × Nv=>(x.1,x.2.val))=fun x=>decide (x.1=d):=rfl;rw [e];cases E.find? (fun x=>decide (x.1=d)) <;> rfl
theorem zy1 {E:List (Int × Nv)} (h:E.Pairwise (fun a b=>a.1≠b.1)) (d:Int):Maps.has (MapI.mapOf (vals E)) (MapI.key d)=decide (d∈E.map (·.1))∧(MapI.mapOf (vals E)).atKey (MapI.key d) (MapI.dat (Nv.val ⟨none,0,none,0⟩))=MapI.dat (.agg #[.map (getN E d).m, .int .i64 ((getN E d).n:Int), .slice (getN E d).a (getN E d).n (getN E d).cap]):=by
 have h1:=MapI.look (vals_apart h) d (Nv.val ⟨none,0,none,0⟩);rw [vals_ids,get_vals] at h1;exact h1
theorem zx3 (w:World):(zeroValue 135).run Tryz.prog w= .ok (Nv.val ⟨none,0,none,0⟩) w:=by kernel_rfl
end Pl
end
section
open Go.RowKit Go.Maps
namespace Mem
def zj3 (w:World) (B:Nat) (x:Pl.Nv) (R:List (Int × List Pl.Nd)):Prop:=
 ∃L k q,x.m=some q∧x.n=k.len∧((B≤q∧apart w q k (.slice x.a k.len x.cap))∧ownM w q L)∧((Pl.Fx.cons L k .nil).okX∧(Pl.Fx.cons L k .nil).flat=R)∧layX w (fun b=>B≤b) k (.slice x.a k.len x.cap)
theorem zj3.same {w w':World} {B:Nat} {x:Pl.Nv} {R:List (Int × List Pl.Nd)} (h:zj3 w B x R) (hs:w.heap.size≤w'.heap.size) (hb:∀b,B≤b→b<w.heap.size→w'.heap[b]? =w.heap[b]?):zj3 w' B x R:=by
 obtain ⟨L,k,q,h1,h2,⟨⟨h3,h4⟩,h5⟩,h6,h7⟩:=h;exact ⟨L,k,q,h1,h2,⟨⟨h3,yb3 hb h7 h4⟩,h5.same (hb q h3 h5.lt)⟩,h6,zo7 (fun g hg hl=>⟨hg,Nat.lt_of_lt_of_le hl hs,hb g hg hl⟩) h7⟩
theorem zj3.call {w w':World} {B:Nat} {x:Pl.Nv} {R:List (Int × List Pl.Nd)} (h:zj3 w B x R) (b:Below w.heap.size w w'):zj3 w' B x R:=h.same b.size (fun g _ hg=>b.block g hg)
theorem zj3.grown {w w':World} {B q:Nat} {x:Pl.Nv} {R:List (Int × List Pl.Nd)} (h:zj3 w B x R) (g:w.grownBy w' (some q)) (hq:q<B):zj3 w' B x R:=h.same g.size (fun b hb hl=>g.block b hl (fun e=>by have :=Option.some.inj e;omega))
theorem zj3.mono {w:World} {B B':Nat} {x:Pl.Nv} {R:List (Int × List Pl.Nd)} (h:zj3 w B x R) (hb:B'≤B):zj3 w B' x R:=by
 obtain ⟨L,k,q,h1,h2,⟨⟨h3,h4⟩,h5⟩,h6,h7⟩:=h;exact ⟨L,k,q,h1,h2,⟨⟨by omega,h4⟩,h5⟩,h6,zr6 h7 (fun b hb _=>by omega)⟩
def zi1 (w:World) (B:Nat) (E:List (Int × Pl.Nv)) (N:List Pl.Ns):Prop:=∀ (i:Nat) y,E[i]? =some y→∃x,N[i]? =some x∧y.1=x.d∧zj3 w B y.2 (x.Is.map Pl.It.r)
theorem zi1.call {w w':World} {B:Nat} {E:List (Int × Pl.Nv)} {N:List Pl.Ns} (h:zi1 w B E N) (b:Below w.heap.size w w'):zi1 w' B E N:=fun i y hy=>by
 obtain ⟨x,h1,h2,h3⟩:=h i y hy;exact ⟨x,h1,h2,h3.call b⟩
theorem zi1.grown {w w':World} {B q:Nat} {E:List (Int × Pl.Nv)} {N:List Pl.Ns} (h:zi1 w B E N) (g:w.grownBy w' (some q)) (hq:q<B):zi1 w' B E N:=fun i y hy=>by
 obtain ⟨x,h1,h2,h3⟩:=h i y hy;exact ⟨x,h1,h2,h3.grown g hq⟩
theorem zi1.mono {w:World} {B B':Nat} {E:List (Int × Pl.Nv)} {N:List Pl.Ns} (h:zi1 w B E N) (hb:B'≤B):zi1 w B' E N:=fun i y hy=>by
 obtain ⟨x,h1,h2,h3⟩:=h i y hy;exact ⟨x,h1,h2,h3.mono hb⟩
theorem zi1.snoc {w:World} {B:Nat} {E:List (Int × Pl.Nv)} {N:List Pl.Ns} (h:zi1 w B E N) {v:Pl.Nv} {x:Pl.Ns} (hx:N[E.length]? =some x) (hv:zj3 w B v (x.Is.map Pl.It.r)):zi1 w B (E++[(x.d,v)]) N:=fun i y hy=>by
 by_cases hi:i<E.length
 ·rw [List.getElem?_append_left hi] at hy;exact h i y hy
 ·rw [List.getElem?_append_right (by omega)] at hy;have hi2:i=E.length:=by have :=(List.getElem?_eq_some_iff.1 hy).1;simp at this;omega
  subst hi2;simp at hy
  subst hy;exact ⟨x,hx,rfl,hv⟩
end Mem
end
section
open Go.RowKit Go.Maps
namespace Mem
theorem zi8 {α:Type} {T:TypeId} {cs:α→List Value} {w:World} {B:Nat} {v:Value} {L:List α} (h:own3 T cs w B v L) (a:Addr) (u:Value) (ha:∀g,v.ownBlock=some g→a.block≠g):own3 T cs (w.setCell a u) B v L:=by
 refine ⟨h.1,?_⟩
 rcases h.2 with h0|⟨g,cap,cur,rfl,hb,hg,rest⟩
 ·exact .inl h0
 ·exact .inr ⟨g,cap,cur,rfl,hb,(heap_setCell_other w a g u (fun e=>ha g rfl e.symm)).trans hg,rest⟩
theorem ze5 {α:Type} {T:TypeId} {cs:α→List Value} {w:World} {B:Nat} {v:Value} {L:List α} (h:own3 T cs w B v L):∀g,v.ownBlock=some g→B≤g∧g<w.heap.size:=fun g hg=>World.ownsRow.lt h g hg
end Mem
namespace SpO
abbrev Z:Obj:= .cells #[.map none, .slice none 0 0, .slice none 0 0, .int .i64 0] 65
structure SpV (B:Nat) (W:World) (s:Pl.Sp) (q:Nat) (E:List (Int × Pl.Nv)) (ma:Option Addr) (mc:Nat) (ha:Option Addr) (hc:Nat):Prop where
 lo:B≤q
 ids:E.map (·.1)=s.N.map (·.d)
 mo:W.ownsMap Tryz.prog 2 MapI.elem q 12 (MapI.mapOf (Pl.vals E))
 nv:∃W1,Mem.zi1 W1 (q+1) E s.N∧W1.heap.size≤W.heap.size∧q<W1.heap.size∧(∀b,q<b→b<W1.heap.size→W.heap[b]? =W1.heap[b]?)∧Mem.own3 49 Pl.Mn.cs W W1.heap.size (.slice ma s.M.length mc) s.M∧Mem.own3 113 Pl.Hn.cs W W1.heap.size (.slice ha s.H.length hc) s.H
 ne:∀g,(Value.slice ma s.M.length mc).ownBlock=some g→(Value.slice ha s.H.length hc).ownBlock≠some g
theorem SpV.call {B:Nat} {W W':World} {s:Pl.Sp} {q:Nat} {E:List (Int × Pl.Nv)} {ma:Option Addr} {mc:Nat} {ha:Option Addr} {hc:Nat} (h:SpV B W s q E ma mc ha hc) (b:Below W.heap.size W W'):SpV B W' s q E ma mc ha hc:=by
 obtain ⟨h1,h2,h3,⟨W1,h4,h5,h6,h7,h8,h9⟩,h10⟩:=h;exact ⟨h1,h2,MapI.zf9 h3 b,⟨W1,h4,Nat.le_trans h5 b.size,h6,fun g hg hl=>(b.block g (by omega)).trans (h7 g hg hl),Mem.zm h8 b,Mem.zm h9 b⟩,h10⟩
theorem SpV.far {B:Nat} {W:World} {s:Pl.Sp} {q:Nat} {E:List (Int × Pl.Nv)} {ma:Option Addr} {mc:Nat} {ha:Option Addr} {hc:Nat} (h:SpV B W s q E ma mc ha hc) {Y:Nat} (k:Nat) (u:Value) (hY:Y<q):SpV B (W.setCell ⟨Y,k,none⟩ u) s q E ma mc ha hc:=by
 obtain ⟨h1,h2,h3,⟨W1,h4,h5,h6,h7,h8,h9⟩,h10⟩:=h;have g:W.grownBy (W.setCell ⟨Y,k,none⟩ u) (some Y):=⟨rfl,rfl,rfl,by rw [World.size_setCell];exact Nat.le_refl _,fun j _ hj=>heap_setCell_other _ _ _ _ (fun e=>hj (congrArg some e))⟩;refine ⟨h1,h2,h3.kept g (fun e=>by have :=Option.some.inj e;omega),⟨W1,h4,by rw [World.size_setCell];exact h5,h6,fun b hb hl=>(heap_setCell_other _ _ _ _ (by show b≠Y;omega)).trans (h7 b hb hl),Mem.zi8 h8 _ _ (fun b hb=>by have :=(Mem.ze5 h8 b hb).1;show Y≠b;omega),Mem.zi8 h9 _ _ (fun b hb=>by have :=(Mem.ze5 h9 b hb).1;show Y≠b;omega)⟩,h10⟩
theorem SpV.nests {B:Nat} {W:World} {s:Pl.Sp} {q:Nat} {E:List (Int × Pl.Nv)} {ma:Option Addr} {mc:Nat} {ha:Option Addr} {hc:Nat} (h:SpV B W s q E ma mc ha hc):Mem.zi1 W (q+1) E s.N:=by
 obtain ⟨W1,h4,h5,h6,h7,h8,h9⟩:=h.nv;intro i y hy;obtain ⟨x,k1,k2,k3⟩:=h4 i y hy;exact ⟨x,k1,k2,k3.same h5 (fun b hb hl=>h7 b (by omega) hl)⟩
theorem SpV.zl8 {B:Nat} {W:World} {s:Pl.Sp} {q:Nat} {E:List (Int × Pl.Nv)} {ma:Option Addr} {mc:Nat} {ha:Option Addr} {hc:Nat} (h:SpV B W s q E ma mc ha hc):Mem.zc6 W ma s.M:=by
 obtain ⟨W1,h4,h5,h6,h7,h8,h9⟩:=h.nv;obtain ⟨a,cap,e,hr,_⟩:=Mem.own3_is Pl.Mn.three h8;cases e
 exact Mem.yd5 hr
theorem SpV.hands {B:Nat} {W:World} {s:Pl.Sp} {q:Nat} {E:List (Int × Pl.Nv)} {ma:Option Addr} {mc:Nat} {ha:Option Addr} {hc:Nat} (h:SpV B W s q E ma mc ha hc):Mem.ze2 W ha s.H:=by
 obtain ⟨W1,h4,h5,h6,h7,h8,h9⟩:=h.nv;obtain ⟨a,cap,e,hr,_⟩:=Mem.own3_is Pl.Hn.three h9;cases e
 exact Mem.yd6 hr
structure Ps (D W:World) (eX:Option Nat) (o1 o2:Option (Option Addr × Nat)) (M:List Pl.Mn) (H:List Pl.Hn):Prop where
 bel:Below D.heap.size D W
 bx:∀X,eX=some X→Mem.Blk W X #[.map none, .slice none 0 0, .slice none 0 0, .int .i64 0] 65∧D.heap.size≤X
 q1:∀p,o1=some p→Mem.own3 49 Pl.Mn.cs W D.heap.size (.slice p.1 M.length p.2) M∧∀g,(Value.slice p.1 M.length p.2).ownBlock=some g→eX≠some g
 q2:∀p,o2=some p→Mem.own3 113 Pl.Hn.cs W D.heap.size (.slice p.1 H.length p.2) H∧∀g,(Value.slice p.1 H.length p.2).ownBlock=some g→eX≠some g∧∀p1,o1=some p1→(Value.slice p1.1 M.length p1.2).ownBlock≠some g
section
variable {D W W':World} {eX:Option Nat} {o1 o2:Option (Option Addr × Nat)} {M:List Pl.Mn} {H:List Pl.Hn}
theorem Ps.start (b:Below D.heap.size D W):Ps D W none none none M H:=⟨b,fun _ h=>(by cases h),fun _ h=>(by cases h),fun _ h=>(by cases h)⟩
theorem Ps.call (h:Ps D W eX o1 o2 M H) (b:Below W.heap.size W W'):Ps D W' eX o1 o2 M H:=
 ⟨h.bel.trans (b.mono h.bel.size),fun X e=>⟨(h.bx X e).1.call b,(h.bx X e).2⟩,fun p e=>⟨Mem.zm (h.q1 p e).1 b,(h.q1 p e).2⟩,fun p e=>⟨Mem.zm (h.q2 p e).1 b,(h.q2 p e).2⟩⟩
theorem Ps.ax (h:Ps D W none o1 o2 M H):Ps D (W.alloc Z) (some W.heap.size) o1 o2 M H:=by
 have g:=h.call ((Below.refl _ _).alloc (Nat.le_refl _) Z);refine ⟨g.bel,fun X e=>?_,fun p e=>⟨(g.q1 p e).1,fun q hq e2=>?_⟩,fun p e=>⟨(g.q2 p e).1,fun q hq=>⟨fun e2=>?_,((g.q2 p e).2 q hq).2⟩⟩⟩
 ·cases e;exact ⟨Mem.Blk.new _ _ _,h.bel.size⟩
 ·cases e2;have :=(Mem.ze5 (h.q1 p e).1 _ hq).2;omega
 ·cases e2;have :=(Mem.ze5 (h.q2 p e).1 _ hq).2;omega
theorem Ps.c1 {a:Option Addr} {c:Nat} (h:Ps D W eX none none M H) (b:Below W.heap.size W W') (o:Mem.own3 49 Pl.Mn.cs W' W.heap.size (.slice a M.length c) M):Ps D W' eX (some (a,c)) none M H:=by
 have g:=h.call b;refine ⟨g.bel,g.bx,fun p e=>?_,fun _ h=>(by cases h)⟩;cases e
 refine ⟨Mem.own3_mono o h.bel.size,fun q hq e=>?_⟩;have :=(Mem.ze5 o q hq).1;have :=(h.bx q e).1.lt;omega
theorem Ps.c2 {a:Option Addr} {c:Nat} (h:Ps D W eX o1 none M H) (b:Below W.heap.size W W') (o:Mem.own3 113 Pl.Hn.cs W' W.heap.size (.slice a H.length c) H):Ps D W' eX o1 (some (a,c)) M H:=by
 have g:=h.call b;refine ⟨g.bel,g.bx,g.q1,fun p e=>?_⟩;cases e
 refine ⟨Mem.own3_mono o h.bel.size,fun q hq=>⟨fun e=>?_,fun p1 e e1=>?_⟩⟩
 ·have :=(Mem.ze5 o q hq).1;have :=(h.bx q e).1.lt;omega
 ·have :=(Mem.ze5 o q hq).1;have :=(Mem.ze5 (h.q1 p1 e).1 q e1).2;omega
end
structure Rk (v W:World) (X q:Nat) (sa ta:Option Addr) (sc tc:Nat) (M:List Pl.Mn) (H:List Pl.Hn) (next :Int):Prop where
 bel:Below v.heap.size v W
 bx:Mem.Blk W X #[.map (some q), .slice sa M.length sc, .slice ta H.length tc, .int .i64 next] 65
 lx:v.heap.size≤X
 q1:Mem.own3 49 Pl.Mn.cs W v.heap.size (.slice sa M.length sc) M
 q2:Mem.own3 113 Pl.Hn.cs W v.heap.size (.slice ta H.length tc) H
 ne:∀g,(Value.slice sa M.length sc).ownBlock=some g→(Value.slice ta H.length tc).ownBlock≠some g
theorem Rk.call {v W W':World} {X q:Nat} {sa ta:Option Addr} {sc tc:Nat} {M:List Pl.Mn} {H:List Pl.Hn} {next :Int} (h:Rk v W X q sa ta sc tc M H next) (b:Below W.heap.size W W'):Rk v W' X q sa ta sc tc M H next :=
 ⟨h.bel.trans (b.mono h.bel.size),h.bx.call b,h.lx,Mem.zm h.q1 b,Mem.zm h.q2 b,h.ne⟩
theorem Rk.put {v W:World} {X q:Nat} {sa ta:Option Addr} {sc tc:Nat} {M:List Pl.Mn} {H:List Pl.Hn} {next :Int} (h:Rk v W X q sa ta sc tc M H next) {Y k:Nat} (u:Value) (hY:Y<v.heap.size):
  Mem.Blk (W.setCell ⟨Y,k,none⟩ u) X #[.map (some q), .slice sa M.length sc, .slice ta H.length tc, .int .i64 next] 65∧Mem.own3 49 Pl.Mn.cs (W.setCell ⟨Y,k,none⟩ u) v.heap.size (.slice sa M.length sc) M∧Mem.own3 113 Pl.Hn.cs (W.setCell ⟨Y,k,none⟩ u) v.heap.size (.slice ta H.length tc) H:=
 ⟨h.bx.far _ _ (by have :=h.lx;show X≠Y;omega),Mem.zi8 h.q1 _ _ (fun g hg=>by have :=(Mem.ze5 h.q1 g hg).1;show Y≠g;omega),Mem.zi8 h.q2 _ _ (fun g hg=>by have :=(Mem.ze5 h.q2 g hg).1;show Y≠g;omega)⟩
theorem Ps.fin {D W:World} {X q:Nat} {sa ta:Option Addr} {sc tc:Nat} {M:List Pl.Mn} {H:List Pl.Hn} (h:Ps D W (some X) (some (sa,sc)) (some (ta,tc)) M H) (next :Int):
  Rk D ((((W.setCell ⟨X,0,none⟩ (.map (some q))).setCell ⟨X,1,none⟩ (.slice sa M.length sc)).setCell ⟨X,2,none⟩ (.slice ta H.length tc)).setCell ⟨X,3,none⟩ (.int .i64 next)) X q sa ta sc tc M H next :=by
 obtain ⟨h5,l5⟩:=h.bx _ rfl;obtain ⟨o1,n1⟩:=h.q1 _ rfl;obtain ⟨o2,n2⟩:=h.q2 _ rfl;refine ⟨(((h.bel.setCell l5 _).setCell l5 _).setCell l5 _).setCell l5 _,(((h5.put 0 _).put 1 _).put 2 _).put 3 _,l5,?_,?_,fun g hg e=>(n2 g e).2 _ rfl hg⟩
 ·exact Mem.zi8 (Mem.zi8 (Mem.zi8 (Mem.zi8 o1 _ _ (fun g hg e=>n1 g hg (congrArg some e))) _ _ (fun g hg e=>n1 g hg (congrArg some e))) _ _ (fun g hg e=>n1 g hg (congrArg some e))) _ _ (fun g hg e=>n1 g hg (congrArg some e))
 ·exact Mem.zi8 (Mem.zi8 (Mem.zi8 (Mem.zi8 o2 _ _ (fun g hg e=>(n2 g hg).1 (congrArg some e))) _ _ (fun g hg e=>(n2 g hg).1 (congrArg some e))) _ _ (fun g hg e=>(n2 g hg).1 (congrArg some e))) _ _ (fun g hg e=>(n2 g hg).1 (congrArg some e))
theorem meet {P F:World→Nat→Option Addr→Nat→Option Addr→Nat→Prop} {G:Prop} (h1:(∀W X sa sc ta tc,F W X sa sc ta tc→P W X sa sc ta tc)→G) (h2:∀W X sa sc ta tc,F W X sa sc ta tc→P W X sa sc ta tc):G:=h1 h2
end SpO
end
end Go.Proofs.YtbomeifgfalmdaaGreatDoor
