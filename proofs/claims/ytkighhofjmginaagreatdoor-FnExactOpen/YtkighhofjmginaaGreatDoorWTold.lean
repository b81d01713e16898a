import Derived.Test.YtkighhofjmginaaGreatDoorG31
namespace Go.Proofs.YtkighhofjmginaaGreatDoor
open Go.RowKit Go.Maps
namespace SpO
structure Tv (Bn:Nat) (W:World) (s:Pl.Sp) (q:Nat) (E:List (Int × Pl.Nv)) (ma:Option Addr) (mc:Nat) (ha:Option Addr) (hc:Nat):Prop where
 ids:E.map (·.1)=s.N.map (·.d)
 mo:W.ownsMap Tryz.prog 2 MapI.elem q 12 (MapI.mapOf (Pl.vals E))
 nests:Mem.zg1 W Bn E s.N
 zh9:Mem.zc4 W ma s.M
 hands:Mem.ze W ha s.H
theorem Tv.call {Bn:Nat} {W W':World} {s:Pl.Sp} {q:Nat} {E:List (Int × Pl.Nv)} {ma:Option Addr} {mc:Nat} {ha:Option Addr} {hc:Nat} (h:Tv Bn W s q E ma mc ha hc) (b:Below W.heap.size W W'):Tv Bn W' s q E ma mc ha hc:=
 ⟨h.ids,MapI.zf1 h.mo b,h.nests.call b,Mem.zd9 h.zh9 b,Mem.zf2 h.hands b⟩
theorem SpV.tv {B:Nat} {W:World} {s:Pl.Sp} {q:Nat} {E:List (Int × Pl.Nv)} {ma:Option Addr} {mc:Nat} {ha:Option Addr} {hc:Nat} (h:SpV B W s q E ma mc ha hc):Tv (q+1) W s q E ma mc ha hc:=⟨h.ids,h.mo,h.nests,h.zh9,h.hands⟩
end SpO
namespace WSpI
theorem infoZ:(Tryz.prog.info? 100).map (fun i=>(i.zero,i.size,i.bytes))=some (some (.agg #[.int .i64 0, .slice none 0 0]),2,32):=by kernel_rfl
theorem za1 {w:World} (X k:Nat) (v:Value):w.grownBy (w.setCell ⟨X,k,none⟩ v) (some X):=
 have b:Below X w (w.setCell ⟨X,k,none⟩ v):=(Below.refl X w).setCell (Nat.le_refl _) v
 ⟨b.os,b.tape,b.output,b.size,fun j _ hne=>heap_setCell_other w _ j v (fun e=>hne (by rw [e]))⟩
theorem ye8 {w v:World} {X k:Nat} {u:Value} (h:w.grownBy v (some X)):w.grownBy (v.setCell ⟨X,k,none⟩ u) (some X):=
 ⟨h.os,h.tape,h.output,Nat.le_trans h.size (by simp [World.setCell]),fun j hj hne=>(heap_setCell_other _ _ _ _ (fun e=>hne (by rw [e]))).trans (h.block j hj hne)⟩
structure R5 (wr W:World) (d:Int) (Hh:Nat) (R:List (Int × List Pl.Nd)) (a7:Option Addr) (c7:Nat) (Js:List Pl.It) (X:Nat):Prop where
 bel:Below wr.heap.size wr W
 ib:Mem.Ib W wr.heap.size Hh (.slice a7 Js.length c7) Js
 le:wr.heap.size≤Hh
 hs:Hh≤W.heap.size
 reads:Js.map Pl.It.r=R
 blk:Mem.Blk W X #[.int .i64 d, .slice a7 Js.length c7] 100
 xs:Hh≤X
theorem meet5 {P F:World→Option Addr→Nat→List Pl.It→Nat→Prop} {G:Prop} (h1:(∀W a c J X,F W a c J X→P W a c J X)→G) (h2:∀W a c J X,F W a c J X→P W a c J X):G:=h1 h2
set_option linter.unusedSimpArgs false in
set_option maxRecDepth 100000 in
set_option maxHeartbeats 4000000 in
theorem toldT_any (s:Pl.Sp) (q:Nat) (E:List (Int × Pl.Nv)) (sa ta:Option Addr) (sc tc Bn:Nat) (w:World) (hG:SpO.Tv Bn w s q E sa sc ta tc) (hN:s.N.length≤12) (hM:s.M.length≤6) (hH:s.H.length≤6) (hrise:(s.N.map (·.d)).Pairwise (· < ·)) (hi64:∀d∈s.N.map (·.d),MapI.i64 d) (hI:∀x∈s.N,x.Is.length≤12) (hmp:∀m∈s.M,m.p.size≤1048576) (hhp:∀m∈s.H,m.p.size≤1048576):
  Calls Tryz.prog 36 #[.agg #[.map (some q), .slice sa s.M.length sc, .slice ta s.H.length tc, .int .i64 s.next]] w fun e w'=>(∃u S1 S2 S3 lo hi,e= .returned (.agg u.cs)∧SpO.Told w w' s u S1 S2 S3 lo hi)∧Below w.heap.size w w':=by
 obtain ⟨i0,hi0,hz0,hz1,hz2⟩:=info_parts infoZ;have hqw:q<w.heap.size:=hG.mo.lt;have HNEST:=hide (fun (k:Nat) (x:Pl.Ns) (hx:s.N[k]? =some x) W (b:Below w.heap.size w W)=>SpO.nest_of (hG.call b).nests hG.ids (hrise.imp (fun h=>by omega)) hx);have HLK:=hide (fun d=>(Pl.zv9 (E:=E) (by have :=hG.ids;have h2:(E.map (·.1)).Pairwise (· < ·):=(by rw [this];exact hrise);exact (List.pairwise_map.1 h2).imp (fun h=>by omega)) d).2);have HMO:=hide (fun W (b:Below w.heap.size w W)=>(hG.call b).mo);have HMV:=hide (fun W (b:Below w.heap.size w W)=>(hG.call b).zh9);have HHV:=hide (fun W (b:Below w.heap.size w W)=>(hG.call b).hands);have HIDS:=hide hG.ids;have HRI:=hide hrise;have HI64:=hide hi64;have HII:=hide hI;have HMP:=hide hmp;have HHP:=hide hhp;clear hG hrise hi64 hI hmp hhp;obtain ⟨ia,ic,N,ma,mc,M,ha,hc,H,next⟩:=s;simp only at HNEST HIDS HRI HI64 HII HMP HHP HMV HHV hN hM hH ⊢
 have K0:Hid (SpO.Tk w (((w.alloc (.cells #[.map (some q), .slice sa M.length sc, .slice ta H.length tc, .int .i64 next] 73)).alloc (.cells #[.slice none 0 0, .slice none 0 0, .slice none 0 0, .int .i64 0] 32)).alloc (.cells #[.slice none 0 0, .slice none 0 0, .slice none 0 0, .int .i64 next] 32)) q sa ta sc tc ⟨ia,ic,N,ma,mc,M,ha,hc,H,next⟩ #[.slice none 0 0, .slice none 0 0, .slice none 0 0, .int .i64 next]):=hide ⟨((bE0).alloc (by simp) _).alloc (by simp;omega) _,((Mem.Blk.new w _ _).alloc _).alloc _,Mem.zx7 w _ _ _,Mem.zq9 w _ _ _⟩;have a0:=(za K0).b1.cell 0;have a3:=(za K0).b1.cell 3;simp only [kGs] at a0 a3
 have A0:=hide ((Mem.Blk.new w #[.map (some q), .slice sa M.length sc, .slice ta H.length tc, .int .i64 next] 73).alloc (.cells #[.slice none 0 0, .slice none 0 0, .slice none 0 0, .int .i64 0] 32));have a3':=(za A0).cell 3;simp only [kGs] at a3';go_enter Tryz.func36,Tryz.ntmps36
 go_wp2_with fail
 generalize (((w.alloc (.cells #[.map (some q), .slice sa M.length sc, .slice ta H.length tc, .int .i64 next] 73)).alloc (.cells #[.slice none 0 0, .slice none 0 0, .slice none 0 0, .int .i64 0] 32)).alloc (.cells #[.slice none 0 0, .slice none 0 0, .slice none 0 0, .int .i64 next] 32))=w3 at K0 a0 a3 ⊢;refine (WKeys.keys_any (some q) _).mono ?_;rintro e w4' ⟨rfl,hw4⟩;have bA4:Below w3.heap.size w3 w4':=by rw [hw4];exact bE0
 have B4:Mem.Blk w4' w3.heap.size #[.map (some q)] 71:=by rw [hw4];exact Mem.Blk.new _ _ _
 have K4:=hide ((za K0).call bA4);have hids2:((Pl.vals E).map (·.1))=N.map (·.d):=by rw [Pl.zy6];exact za HIDS
 have hlen2:(Pl.vals E).length=N.length:=by have :=congrArg List.length hids2;simpa using this
 have HS:=hide (WKeys.ids_any q 12 w3.heap.size (Pl.vals E) w4' (by omega) B4.lt (B4.cell 0) (za HMO _ (za K4).bel) (by rw [hids2];exact za HRI));rw [hids2,hlen2] at HS;have hw3:=(za K0).b3.lt;clear hw4 bA4 B4 K0 a0 a3 A0 a3' hids2 hlen2;go_wp2_with fail
 refine (za HS).mono ?_;rintro e w5 ⟨v,rfl,hrow,bX⟩;obtain ⟨pa,pc,rfl⟩:=Mem.za7 hrow;have K5:=hide ((za K4).call bX);have hs45:=bX.size
 have I5:Hid (SpO.ids w5 (w.heap.size+2) w5.heap.size pa (N.map (·.d))):=by
  have hl4:=(za K4).b3.lt
  rcases SpO.ids_row hrow with h|h
  ·exact hide (fun i x hx=>by obtain ⟨b,h1,h2,h3,h4⟩:=h i x hx;exact ⟨b,h1,by omega,h3,h4⟩)
  ·omega
 have Z5:Hid (Mem.Iz w5 w5.heap.size (.slice none 0 0) [] (fun _=>0) (fun _=>0)):=hide (Mem.Iz.nil _ _ _ _);have hS1:w.heap.size+2<w5.heap.size:=by have :=(za K4).b3.lt;omega
 clear HS hrow bX K4 hs45;generalize hS1e:w5.heap.size=S1 at I5 Z5 hS1;have hs1:S1≤w5.heap.size:=by omega
 clear hS1e hw3;go_wp2
 go_loopw [18] (fun i wr=>∃ (k:Nat) (a:Option Addr) (c:Nat) (Ds:List Pl.Ns) (lo hi:Nat→Nat),k≤N.length∧i= .int .i64 (k:Int)∧Hid (SpO.Tk w wr q sa ta sc tc ⟨ia,ic,N,ma,mc,M,ha,hc,H,next⟩ #[.slice a k c, .slice none 0 0, .slice none 0 0, .int .i64 next])∧Hid (Mem.Iz wr S1 (.slice a k c) Ds lo hi)∧Hid (Ds.length=k)∧Hid (Ds.map Pl.Ns.r=(N.map Pl.Ns.r).take k)∧Hid (SpO.ids wr (w.heap.size+2) S1 pa (N.map (·.d)))∧S1≤wr.heap.size) (fun i _=>N.length - (intOf i).toNat)
 case atStart=>exact ⟨0,none,0,[],_,_,Nat.zero_le _,rfl,K5,Z5,hide rfl,hide rfl,I5,hs1⟩
 case round=>
  obtain ⟨k,a,c,Ds,lo,hi,hk,rfl,HT5,HIZ5,HDL,HDR,HI5,hS5⟩:=hrel;clear K5 Z5 I5 hs1;by_cases hlt:k<N.length
  ·obtain ⟨t,ht⟩:∃n,N[k]? =some n:=⟨_,List.getElem?_eq_getElem hlt⟩;have u1:(k:Int)<(N.length:Int):=by omega
   have u3:(0:Int)≤(k:Int):=by omega
   obtain ⟨gI,rfl,hgI,hgI2,c0⟩:=(za HI5) k t.d (by rw [List.getElem?_map,ht];rfl);have hb5:=(za HT5).bel;have KB5:Hid ((∀W',Below wr.heap.size wr W'→W'.cell? ⟨w.heap.size,0,none⟩=some (.map (some q)))∧(∀W',Below wr.heap.size wr W'→W'.ownsMap Tryz.prog 2 MapI.elem q 12 (MapI.mapOf (Pl.vals E)))):=hide ⟨fun W' b=>((za HT5).call b).b1.cell 0,fun W' b=>za HMO W' (hb5.trans (b.mono hb5.size))⟩;have HX5:=hide (za HT5).b3;have hnst:=za HNEST k t ht;have HAT:=hide (za HLK t.d);generalize Pl.getN E t.d=nv at hnst HAT;obtain ⟨nm,nn,na,nc⟩:=nv;simp only at HAT;have HIT:=hide (fun W (b:Below wr.heap.size wr W)=>items_nest nm nn na nc (t.Is.map Pl.It.r) Bn W (hnst W (hb5.trans (b.mono hb5.size))) (by rw [List.length_map];exact za HII t (List.mem_of_getElem? ht)));have hkey:=MapI.zm4 (za HI64 t.d (List.mem_map.2 ⟨t,List.mem_of_getElem? ht,rfl⟩));have HT:=hide ht;clear hnst ht
   go_upto_region 5 with fail
   clear c0
   refine zy0 (R:=fun T0 T' W=>∃ (a':Option Addr) (c':Nat) (a7:Option Addr) (c7:Nat) (Js:List Pl.It) (X Hh:Nat),T'=((((((((((((T0).setIfInBounds 22 (.pointer (some ⟨w.heap.size+2,0,none⟩))).setIfInBounds 23 (.slice a k c)).setIfInBounds 24 (.int .i64 t.d)).setIfInBounds 25 (.pointer (some ⟨w.heap.size,0,none⟩))).setIfInBounds 26 (.map (some q))).setIfInBounds 27 (.int .i64 t.d)).setIfInBounds 28 (.agg #[.map nm, .int .i64 (nn:Int), .slice na nn nc])).setIfInBounds 29 (.slice a7 Js.length c7)).setIfInBounds 30 (.agg #[.int .i64 t.d, .slice a7 Js.length c7])).setIfInBounds 31 (.slice (some ⟨X,0,none⟩) 1 1)).setIfInBounds 32 (.slice a' (k+1) c')).setIfInBounds 33 (.pointer (some ⟨w.heap.size+2,0,none⟩))∧SpO.Tk w W q sa ta sc tc ⟨ia,ic,N,ma,mc,M,ha,hc,H,next⟩ #[.slice a' (k+1) c', .slice none 0 0, .slice none 0 0, .int .i64 next]∧Mem.Iz W S1 (.slice a' (k+1) c') (Ds++[⟨t.d,a7,c7,Js⟩]) (Pl.upd lo Ds.length wr.heap.size) (Pl.upd hi Ds.length Hh)∧SpO.ids W (w.heap.size+2) S1 (some ⟨gI,0,none⟩) (N.map (·.d))∧S1≤W.heap.size∧Js.map Pl.It.r=t.Is.map Pl.It.r) ?_ ?_
   ·refine wp_region_held_drew (S:=fun W'=>W'.cell? ⟨w.heap.size,0,none⟩=some (.map (some q))∧W'.ownsMap Tryz.prog 2 MapI.elem q 12 (MapI.mapOf (Pl.vals E))) (by kernel_rfl) ?_ (fun hHeld=>?_)
    ·exact ⟨(za KB5).1 _ (bD _),(za KB5).2 _ (bD _)⟩
    have b05:Below wr.heap.size wr wr.drew:=(Below.refl _ _).trans ⟨rfl,rfl,rfl,Nat.le_refl _,fun _ _=>rfl⟩;generalize wr.drew=D0 at hHeld b05 ⊢;refine TB 0 ?_;refine TB 2 ?_;refine TB 3 ?_;refine TB 4 ?_;refine TB 5 ?_;refine wpAnyH_take (i:=6) (v:= .agg #[.map nm, .int .i64 (nn:Int), .slice na nn nc]) rfl (by kernel_rfl) (by kernel_rfl) (by kernel_rfl) (by first |exact (fun _ _ _ h=>nomatch h.1)|exact (fun _ _ _ h=>h)) (Or.inl ⟨by kernel_rfl,?_⟩) (by assumption) ?_
    ·intro w hSw;obtain ⟨v1,ps,hrun,hv⟩:=hSw.2.lookup MapI.law Tryz.underlying71 (Pl.zv5 w) (MapI.zr7 _) hkey
     have hd1:v1= .agg #[.map nm, .int .i64 (nn:Int), .slice na nn nc]:=by
      unfold MapI.elem at hv;simp only [Option.some.injEq,Prod.mk.injEq] at hv;exact MapI.zr6 (hv.1.trans (za HAT))
     subst hd1;simp only [execOp,Act.eval,kGs];simp [Act.eval,hrun]
    try simp only [Act.put,kBs]
    apply meet5 (F:=fun W a7 c7 Js X=>∃Hh,R5 wr W t.d Hh (t.Is.map Pl.It.r) a7 c7 Js X)
    ·intro hEnd;refine wpAnyH_ready (rs:=[1,7]) (by kernel_rfl) (by simp) ?_;refine AllReadyH.cons rfl (fun K hK=>?_) (AllReadyH.cons rfl (fun K hK=>?_) (AllReadyH.nil))
     ·have x0:=((za HX5).call b05).cell 0;simp only [kGs] at x0;go_simp
      refine hK.out _ _ ?_ (fun hHeld=>?_)
      ·exact hHeld
      clear hK K
      try simp only [Act.put,kBs]
      clear x0;refine RN 7 fun K hK=>?_;go_simp
      refine (za HIT _ (b05)).mono ?_;rintro e D7 ⟨v7,Js,rfl,io7,hr7,b7⟩;obtain ⟨a7,c7,rfl⟩:=Mem.za7 io7.row;have b75:=b05.trans (b7.mono b05.size);have ib7:Mem.Ib D7 wr.heap.size D7.heap.size (.slice a7 Js.length c7) Js:=⟨io7.mono (b05).size,(Mem.Ib.of io7).h1,(Mem.Ib.of io7).h2⟩;refine hK.out _ _ ?_ (fun hHeld=>?_)
      ·exact ⟨(za KB5).1 _ (b75),(za KB5).2 _ (b75)⟩
      clear hK K
      try simp only [Act.put,kBs]
      clear b7;refine TB 8 ?_;refine RN 9 fun K hK=>?_;go_simp
      have bA9:Below D7.heap.size D7 (D7.alloc (.cells #[.int .i64 t.d, .slice a7 Js.length c7] 100)):=bE0;have b95:=b75.trans (bA9.mono b75.size);have hF:=(⟨b95,ib7.call bA9,by have :=(b75).size;omega,bA9.size,hr7,Mem.Blk.new _ _ _,Nat.le_refl _⟩:R5 wr (D7.alloc (.cells #[.int .i64 t.d, .slice a7 Js.length c7] 100)) t.d D7.heap.size (t.Is.map Pl.It.r) a7 c7 Js D7.heap.size);refine hK.out _ _ ?_ (fun hHeld=>?_)
      ·exact ⟨(za KB5).1 _ (b95),(za KB5).2 _ (b95)⟩
      clear hK K
      try simp only [Act.put,kBs]
      generalize D7.alloc (.cells #[.int .i64 t.d, .slice a7 Js.length c7] 100)=D9 at hHeld b95 hF ⊢;generalize hX9:D7.heap.size=X9 at hF ⊢;clear bA9 hX9;exact hEnd _ _ _ _ _ ⟨_,hF⟩
     ·go_simp
      refine (za HIT _ (b05)).mono ?_;rintro e D7 ⟨v7,Js,rfl,io7,hr7,b7⟩;obtain ⟨a7,c7,rfl⟩:=Mem.za7 io7.row;have b75:=b05.trans (b7.mono b05.size);have ib7:Mem.Ib D7 wr.heap.size D7.heap.size (.slice a7 Js.length c7) Js:=⟨io7.mono (b05).size,(Mem.Ib.of io7).h1,(Mem.Ib.of io7).h2⟩;refine hK.out _ _ ?_ (fun hHeld=>?_)
      ·exact ⟨(za KB5).1 _ (b75),(za KB5).2 _ (b75)⟩
      clear hK K
      try simp only [Act.put,kBs]
      clear b7;refine TB 8 ?_;refine wpAnyH_ready (rs:=[1,9]) (by kernel_rfl) (by simp) ?_;refine AllReadyH.cons rfl (fun K hK=>?_) (AllReadyH.cons rfl (fun K hK=>?_) (AllReadyH.nil))
      ·have x0:=((za HX5).call b75).cell 0;simp only [kGs] at x0;go_simp
       refine hK.out _ _ ?_ (fun hHeld=>?_)
       ·exact hHeld
       clear hK K
       try simp only [Act.put,kBs]
       clear x0;refine RN 9 fun K hK=>?_;go_simp
       have bA9:Below D7.heap.size D7 (D7.alloc (.cells #[.int .i64 t.d, .slice a7 Js.length c7] 100)):=bE0;have b95:=b75.trans (bA9.mono b75.size);have hF:=(⟨b95,ib7.call bA9,by have :=(b75).size;omega,bA9.size,hr7,Mem.Blk.new _ _ _,Nat.le_refl _⟩:R5 wr (D7.alloc (.cells #[.int .i64 t.d, .slice a7 Js.length c7] 100)) t.d D7.heap.size (t.Is.map Pl.It.r) a7 c7 Js D7.heap.size);refine hK.out _ _ ?_ (fun hHeld=>?_)
       ·exact ⟨(za KB5).1 _ (b95),(za KB5).2 _ (b95)⟩
       clear hK K
       try simp only [Act.put,kBs]
       generalize D7.alloc (.cells #[.int .i64 t.d, .slice a7 Js.length c7] 100)=D9 at hHeld b95 hF ⊢;generalize hX9:D7.heap.size=X9 at hF ⊢;clear bA9 hX9;exact hEnd _ _ _ _ _ ⟨_,hF⟩
      ·go_simp
       have bA9:Below D7.heap.size D7 (D7.alloc (.cells #[.int .i64 t.d, .slice a7 Js.length c7] 100)):=bE0;have b95:=b75.trans (bA9.mono b75.size);have hF:=(⟨b95,ib7.call bA9,by have :=(b75).size;omega,bA9.size,hr7,Mem.Blk.new _ _ _,Nat.le_refl _⟩:R5 wr (D7.alloc (.cells #[.int .i64 t.d, .slice a7 Js.length c7] 100)) t.d D7.heap.size (t.Is.map Pl.It.r) a7 c7 Js D7.heap.size);refine hK.out _ _ ?_ (fun hHeld=>?_)
       ·exact ⟨(za KB5).1 _ (b95),(za KB5).2 _ (b95)⟩
       clear hK K
       try simp only [Act.put,kBs]
       generalize D7.alloc (.cells #[.int .i64 t.d, .slice a7 Js.length c7] 100)=D9 at hHeld b95 hF ⊢;generalize hX9:D7.heap.size=X9 at hF ⊢;clear bA9 hX9;refine RN 1 fun K hK=>?_;have x0:=((za HX5).call b95).cell 0;simp only [kGs] at x0;go_simp
       refine hK.out _ _ ?_ (fun hHeld=>?_)
       ·exact hHeld
       clear hK K
       try simp only [Act.put,kBs]
       clear x0;exact hEnd _ _ _ _ _ ⟨_,hF⟩
    ·intro W a7 c7 Js X ⟨Hh,hF⟩;have hHeld:=(⟨(za KB5).1 _ hF.bel,(za KB5).2 _ hF.bel⟩:(fun W'=>W'.cell? ⟨w.heap.size,0,none⟩=some (.map (some q))∧W'.ownsMap Tryz.prog 2 MapI.elem q 12 (MapI.mapOf (Pl.vals E))) W);have iz:=(za HIZ5).call hF.bel;have x0:=hF.blk.cell 0;have x1:=hF.blk.cell 1;simp only [kGs] at x0 x1;refine RN 10 fun K hK=>?_;refine Mem.za6 rfl _ _ 28 rfl S1 100 i0 _ 2 32 Tryz.underlying28 hi0 hz0 hz1 hz2 rfl (by decide) (.slice a k c) k (Pl.zh5 Ds) rfl (by have h:=iz.row;rw [za HDL] at h;exact h) (some ⟨X,0,none⟩) 1 1 [.int .i64 t.d, .slice a7 Js.length c7] rfl rfl (.inl ⟨_,rfl,fun j u hj=>?_⟩) (by simp [Value.oneCell']) (by unfold maxLen;omega) (by omega) (by have :=hF.bel.size;omega) ?_
     ·match j,hj with
      |0,hj=>cases hj;exact x0
      |1,hj=>cases hj;exact x1
      |j+2,hj=>simp at hj
     intro v' wB ownB grB farB;obtain ⟨a',c',rfl⟩:=Mem.za7 ownB
     have izB:Mem.Iz wB S1 (.slice a' (k+1) c') (Ds++[⟨t.d,a7,c7,Js⟩]) (Pl.upd lo Ds.length wr.heap.size) (Pl.upd hi Ds.length Hh):=by
      refine iz.app (x:=⟨t.d,a7,c7,Js⟩) hF.ib hS5 hF.le (fun j hj=>?_) (fun g hg=>(World.ownsRow.lt (za HIZ5).row g hg).2) hF.hs ?_ grB farB
      ·obtain ⟨y,hy⟩:∃y,Ds[j]? =some y:=⟨_,List.getElem?_eq_getElem hj⟩;exact ((za HIZ5).each j y hy).2.2.2.1
      ·rw [za HDL];exact ownB
     have tkB:SpO.Tk w wB q sa ta sc tc ⟨ia,ic,N,ma,mc,M,ha,hc,H,next⟩ #[.slice a k c, .slice none 0 0, .slice none 0 0, .int .i64 next]:=((za HT5).call hF.bel).grown grB (fun b hb=>by have :=(World.ownsRow.lt (za HIZ5).row b hb).1;omega);have idB:SpO.ids wB (w.heap.size+2) S1 (some ⟨gI,0,none⟩) (N.map (·.d)):=SpO.ids_same (za HI5) (fun b hb1 hb2=>(grB.block b (by have :=hF.bel.size;omega) (fun e=>by have :=(World.ownsRow.lt (za HIZ5).row b e.symm).1;omega)).trans (hF.bel.block b (by omega)));have mB:wB.ownsMap Tryz.prog 2 MapI.elem q 12 (MapI.mapOf (Pl.vals E)):=((za KB5).2 _ hF.bel).kept grB (fun e=>by have :=(World.ownsRow.lt (za HIZ5).row q e.symm).1;omega);refine hK.out _ _ ?_ (fun hHeld=>?_)
     ·exact ⟨tkB.b1.cell 0,mB⟩
     clear hK K
     try simp only [Act.put,kBs]
     refine TB 11 ?_;have d0:=tkB.b3.cell 0;have f0:=tkB.b3.fr 0;simp only [kGs] at d0;have tkC:=hide (tkB.put 0 (.slice a' (k+1) c'));refine RN 12 fun K hK=>?_;go_simp
     refine hK.out _ _ ?_ (fun hHeld=>?_)
     ·exact ⟨(za tkC).b1.cell 0,mB.kept (WSpI.za1 (w:=wB) _ _ _) (fun e=>by have :=Option.some.inj e;omega)⟩
     clear hK K
     try simp only [Act.put,kBs]
     refine wpAnyH_done (by kernel_rfl) ?_ _;refine ⟨rfl,rfl,a',c',a7,c7,Js,X,Hh,?_,za tkC,izB.far 0 _ (by omega),SpO.ids_same idB (fun b hb1 hb2=>heap_setCell_other _ _ _ _ (by show b≠w.heap.size+2;omega)),by rw [World.size_setCell];have :=grB.size;have :=hF.bel.size;omega,hF.reads⟩;simp only [kB3,kB4,kB5]
   rintro T' wM ⟨a',c',a7,c7,Js,X,Hh,hT',tkM,izM,idM,hsM,hrM⟩;simp only [kB3,kB4,kB5] at hT';subst hT'
   have HR2:Hid ((Ds++[(⟨t.d,a7,c7,Js⟩:Pl.Ns)]).map Pl.Ns.r=(N.map Pl.Ns.r).take (k+1)):=hide (by
    rw [List.map_append,za HDR,List.take_add_one,List.getElem?_map,za HT]
    simp [Pl.Ns.r,hrM])
   have HD2:Hid ((Ds++[(⟨t.d,a7,c7,Js⟩:Pl.Ns)]).length=k+1):=hide (by rw [List.length_append,za HDL];rfl);have KM:=hide tkM;have IM:=hide izM;have DM:=hide idM;clear tkM izM idM hrM HIT HAT KB5 HX5 HT5 HIZ5 HI5 HDR HDL hkey HT hb5;go_wp2
   go_roundw
   case rel=>exact ⟨k+1,a',c',_,_,_,by omega,by go_num,KM,IM,HD2,HR2,DM,hsM⟩
   case measure=>simp [intOf];omega
  ·have u1:¬ (k:Int)<(N.length:Int):=by omega
   have hke:k=N.length:=by omega
   subst hke;have HR0:Hid (Ds.map Pl.Ns.r=N.map Pl.Ns.r):=hide (by rw [za HDR,List.take_of_length_le (by simp)]);obtain ⟨j0,hj0,hjz0,hjz1,hjz2⟩:=info_parts infoMn;obtain ⟨l0,hl0,hlz0,hlz1,hlz2⟩:=info_parts infoHn;have HT0:=HT5;have HZ0:=HIZ5;have hR1':=fun g hg=>(World.ownsRow.lt (za HIZ5).row g hg).2;have hH1':∀j,j<Ds.length→hi j≤wr.heap.size:=fun j hj=>((za HIZ5).each j _ (List.getElem?_eq_getElem hj)).2.2.2.1;have a1:=(za HT5).b1.cell 1;simp only [kGs] at a1;clear HT5 HIZ5 HNEST HLK HMO HIDS HRI HI64 HII HI5 HDR;generalize hS2:wr.heap.size=S2 at hR1' hH1';have hSS:S2≤wr.heap.size:=by omega
   have hS12:S1≤S2:=by omega
   have hR1:∀g,(Value.slice a N.length c).ownBlock=some g→g<S2:=hR1';have hH1:∀j,j<Ds.length→hi j≤S2:=hH1';clear hS2 hR1' hH1' hS5;go_wp2
   go_loopw [38] (fun i wr=>∃ (j:Nat) (b:Option Addr) (cb:Nat) (L2:List Pl.Mn),j≤M.length∧i= .int .i64 (j:Int)∧Hid (SpO.Tk w wr q sa ta sc tc ⟨ia,ic,N,ma,mc,M,ha,hc,H,next⟩ #[.slice a N.length c, .slice b j cb, .slice none 0 0, .int .i64 next])∧Hid (Mem.Iz wr S1 (.slice a N.length c) Ds lo hi)∧Hid (wr.ownsRow S2 56 3 (.slice b j cb) j (Pl.cells3 Pl.Mn.cs L2))∧Hid (L2=M.take j)∧S2≤wr.heap.size) (fun i _=>M.length - (intOf i).toNat)
   case atStart=>exact ⟨0,none,0,[],Nat.zero_le _,rfl,HT0,HZ0,hide ⟨rfl, .inl ⟨rfl,rfl⟩⟩,hide rfl,hSS⟩
   case round=>
    obtain ⟨j,b,cb,L2,hk,rfl,HT5,HIZ5,HO5,HL5,hS5⟩:=hrel;clear HT0 HZ0 hSS;by_cases hlt:j<M.length
    ·obtain ⟨t,ht⟩:∃n,M[j]? =some n:=⟨_,List.getElem?_eq_getElem hlt⟩;have u1:(j:Int)<(M.length:Int):=by omega
     have u3:(0:Int)≤(j:Int):=by omega
     obtain ⟨g,o,rfl,hg,c0,c1,c2⟩:=za HMV _ (za HT5).bel j t ht;have hpt:=za HMP t (List.mem_of_getElem? ht);have bA:Below wr.heap.size wr ((wr.alloc (.cells #[.string t.p, .int .i64 t.i, .bool t.z] 56)).alloc (.cells #[.string t.p] 9)):=(bE0).alloc (by simp) _;have Y1:Mem.Blk ((wr.alloc (.cells #[.string t.p, .int .i64 t.i, .bool t.z] 56)).alloc (.cells #[.string t.p] 9)) wr.heap.size #[.string t.p, .int .i64 t.i, .bool t.z] 56:=(Mem.Blk.new wr _ _).alloc _
     have HJ:=hide (WCopied.join1 t.p (wr.heap.size+1) _ hpt (by
      have h:=SpO.text_new (wr.alloc (.cells #[.string t.p, .int .i64 t.i, .bool t.z] 56)) t.p;rw [show (wr.alloc (.cells #[.string t.p, .int .i64 t.i, .bool t.z] 56)).heap.size=wr.heap.size+1 by simp] at h
      exact h))
     have HTt:=hide ht;have y0:=(Mem.Blk.new wr #[.string t.p, .int .i64 t.i, .bool t.z] 56).cell 0;simp only [kGs] at y0;clear ht;go_wp2_with fail
     generalize (wr.alloc (.cells #[.string t.p, .int .i64 t.i, .bool t.z] 56)).alloc (.cells #[.string t.p] 9)=w1 at bA Y1 HJ ⊢;refine (za HJ).mono ?_;rintro e w2 ⟨rfl,bX⟩;have b2:=bA.trans (bX.mono bA.size);have Y2:=Y1.call bX;have K2:=(za HT5).call b2;have I2:=(za HIZ5).call b2;have O2:=Mem.zj0 (za HO5) b2;have hY:w.heap.size+2<wr.heap.size:=(za HT5).b3.lt;have hOB:=fun q hq=>World.ownsRow.lt (za HO5) q hq;generalize hYe:wr.heap.size=Y at Y2 hY hOB hS5 ⊢;have gS:=za1 (w:=w2) Y 0 (.string t.p);have K3:=hide (K2.grown gS (fun b hb=>by have :=Option.some.inj hb;omega));have I3:=hide (I2.up (S2:=S2) gS (fun b hb=>by have :=Option.some.inj hb;omega) hR1 hH1);have O3:=hide (Mem.zk9 O2 gS (fun q hq e=>by have :=(hOB q hq).2;have :=Option.some.inj e;omega))
     have Y3:=hide (show Mem.Blk (w2.setCell ⟨Y,0,none⟩ (.string t.p)) Y #[.string t.p, .int .i64 t.i, .bool t.z] 56 from Y2.put 0 (.string t.p));have y1:=Y2.cell 0;have f1:=Y2.fr 0;have hSz3:Y<(w2.setCell ⟨Y,0,none⟩ (.string t.p)).heap.size:=(za Y3).lt;simp only [kGs] at y1;clear HT5 HIZ5 HO5 Y1 Y2 K2 I2 O2 b2 bX bA HJ y0 gS c0 c1 c2;go_upto_region 11 with fail
     generalize w2.setCell ⟨Y,0,none⟩ (.string t.p)=w4 at K3 I3 O3 Y3 hSz3 ⊢;clear y1 f1;have y0:=(za Y3).cell 0;have y1:=(za Y3).cell 1;have y2:=(za Y3).cell 2;have o1:=(za K3).b3.cell 1;simp only [kGs] at y0 y1 y2 o1;have bB:Below w4.heap.size w4 (w4.alloc (.cells #[.string t.p, .int .i64 t.i, .bool t.z] 56)):=bE0;have K4:=hide ((za K3).call bB);have I4:=hide ((za I3).call bB);have O4:=hide (Mem.zj0 (za O3) bB);have HNW:=hide (SpO.new_cells w4 [.string t.p, .int .i64 t.i, .bool t.z] 56)
     go_wp2_with (first |(at_builtin;refine Mem.ze0 _ rfl _ _ 29 rfl S2 56 j0 _ 3 32 Tryz.underlying29 hj0 hjz0 hjz1 hjz2 rfl (by decide) (.slice b j cb) j (Pl.cells3 Pl.Mn.cs L2) rfl (za O4) ⟨w4.heap.size,0,none⟩ 1 1 [.string t.p, .int .i64 t.i, .bool t.z] rfl rfl (za HNW) (by simp [Value.oneCell']) (by unfold maxLen;omega) (by omega) (by have :=bB.size;omega) ?_;intro v' wD ownD grD farD;obtain ⟨b',cb',rfl⟩:=Mem.za7 ownD;have K5:=(za K4).grown grD (fun q hq=>by have :=(World.ownsRow.lt (za O4) q hq).1;omega);have o5:=K5.b3.cell 1;have f5:=K5.b3.fr 1;simp only [kGs] at o5)|fail)
     have I5:=(za I4).up (S2:=S2) grD (fun q hq=>by have :=(World.ownsRow.lt (za O4) q hq).1;omega) hR1 hH1;have K6:=hide (K5.put 1 (.slice b' (j+1) cb'));have I6:=hide (I5.far (Y:=w.heap.size+2) 1 (.slice b' (j+1) cb') hS1)
     have O6:Hid ((wD.setCell ⟨w.heap.size+2,1,none⟩ (.slice b' (j+1) cb')).ownsRow S2 56 3 (.slice b' (j+1) cb') (j+1) (Pl.cells3 Pl.Mn.cs (L2++[t]))):=hide (by
      rw [Pl.zt5,Pl.zr9]
      exact Mem.zk9 ownD (za1 _ _ _) (fun q hq e=>by have :=(World.ownsRow.lt ownD q hq).1;have :=Option.some.inj e;omega))
     have L6:Hid (L2++[t]=M.take (j+1)):=hide (by rw [za HL5,List.take_add_one,za HTt];rfl);have hS6:S2≤(wD.setCell ⟨w.heap.size+2,1,none⟩ (.slice b' (j+1) cb')).heap.size:=by rw [World.size_setCell];have :=grD.size;have :=bB.size;omega
     clear K3 I3 O3 K4 I4 O4 K5 I5 ownD grD farD HNW y0 y1 y2 o1 Y3 bB hYe hOB HTt HL5;go_wp2
     go_roundw
     case rel=>exact ⟨j+1,b',cb',L2++[t],by omega,by go_num,K6,I6,O6,L6,hS6⟩
     case measure=>simp [intOf];omega
    ·have u1:¬ (j:Int)<(M.length:Int):=by omega
     have hke2:j=M.length:=by omega
     subst hke2

     have HT0:=HT5;have HZ0:=HIZ5;have hLM:M=L2:=by rw [za HL5,List.take_of_length_le (Nat.le_refl _)]
     subst hLM;have OM0:=HO5;have hR2':=fun g hg=>(World.ownsRow.lt (za HO5) g hg).2;have a2:=(za HT5).b1.cell 2;simp only [kGs] at a2;clear HT5 HIZ5 HO5 HL5 HMV HMP;generalize hS3:wr.heap.size=S3 at hR2';have hSS:S3≤wr.heap.size:=by omega
     have hS23:S2≤S3:=by omega
     have hR2:∀g,(Value.slice b M.length cb).ownBlock=some g→g<S3:=hR2';clear hS3 hR2' hS5;go_wp2
     go_loopw [57] (fun i wr=>∃ (j:Nat) (b3:Option Addr) (cb3:Nat) (L3:List Pl.Hn),j≤H.length∧i= .int .i64 (j:Int)∧Hid (SpO.Tk w wr q sa ta sc tc ⟨ia,ic,N,ma,mc,M,ha,hc,H,next⟩ #[.slice a N.length c, .slice b M.length cb, .slice b3 j cb3, .int .i64 next])∧Hid (Mem.Iz wr S1 (.slice a N.length c) Ds lo hi)∧Hid (wr.ownsRow S2 56 3 (.slice b M.length cb) M.length (Pl.cells3 Pl.Mn.cs M))∧Hid (wr.ownsRow S3 67 3 (.slice b3 j cb3) j (Pl.cells3 Pl.Hn.cs L3))∧Hid (L3=H.take j)∧S3≤wr.heap.size) (fun i _=>H.length - (intOf i).toNat)
     case atStart=>exact ⟨0,none,0,[],Nat.zero_le _,rfl,HT0,HZ0,OM0,hide ⟨rfl, .inl ⟨rfl,rfl⟩⟩,hide rfl,hSS⟩
     case round=>
      obtain ⟨j,b3,cb3,L3,hk,rfl,HT5,HIZ5,OM5,HO5,HL5,hS5⟩:=hrel;clear HT0 HZ0 OM0 hSS;by_cases hlt:j<H.length
      ·obtain ⟨t,ht⟩:∃n,H[j]? =some n:=⟨_,List.getElem?_eq_getElem hlt⟩;have u1:(j:Int)<(H.length:Int):=by omega
       have u3:(0:Int)≤(j:Int):=by omega
       obtain ⟨g,o,rfl,hg,c0,c1,c2⟩:=za HHV _ (za HT5).bel j t ht;have hpt:=za HHP t (List.mem_of_getElem? ht);have bA:Below wr.heap.size wr ((wr.alloc (.cells #[.int .i64 t.d, .int .i64 t.i, .string t.p] 67)).alloc (.cells #[.string t.p] 9)):=(bE0).alloc (by simp) _;have Y1:Mem.Blk ((wr.alloc (.cells #[.int .i64 t.d, .int .i64 t.i, .string t.p] 67)).alloc (.cells #[.string t.p] 9)) wr.heap.size #[.int .i64 t.d, .int .i64 t.i, .string t.p] 67:=(Mem.Blk.new wr _ _).alloc _
       have HJ:=hide (WCopied.join1 t.p (wr.heap.size+1) _ hpt (by
        have h:=SpO.text_new (wr.alloc (.cells #[.int .i64 t.d, .int .i64 t.i, .string t.p] 67)) t.p;rw [show (wr.alloc (.cells #[.int .i64 t.d, .int .i64 t.i, .string t.p] 67)).heap.size=wr.heap.size+1 by simp] at h
        exact h))
       have HTt:=hide ht;have y0:=(Mem.Blk.new wr #[.int .i64 t.d, .int .i64 t.i, .string t.p] 67).cell 2;simp only [kGs] at y0;clear ht;go_wp2_with fail
       generalize (wr.alloc (.cells #[.int .i64 t.d, .int .i64 t.i, .string t.p] 67)).alloc (.cells #[.string t.p] 9)=w1 at bA Y1 HJ ⊢;refine (za HJ).mono ?_;rintro e w2 ⟨rfl,bX⟩;have b2:=bA.trans (bX.mono bA.size);have Y2:=Y1.call bX;have K2:=(za HT5).call b2;have I2:=(za HIZ5).call b2;have O2:=Mem.zj0 (za HO5) b2;have OM2:=Mem.zj0 (za OM5) b2;have hY:w.heap.size+2<wr.heap.size:=(za HT5).b3.lt;have hOB:=fun q hq=>World.ownsRow.lt (za HO5) q hq;generalize hYe:wr.heap.size=Y at Y2 hY hOB hS5 ⊢;have gS:=za1 (w:=w2) Y 2 (.string t.p);have K3:=hide (K2.grown gS (fun b hb=>by have :=Option.some.inj hb;omega));have I3:=hide (I2.up (S2:=S2) gS (fun b hb=>by have :=Option.some.inj hb;omega) hR1 hH1);have O3:=hide (Mem.zk9 O2 gS (fun q hq e=>by have :=(hOB q hq).2;have :=Option.some.inj e;omega))
       have OM3:=hide (Mem.zk9 OM2 gS (fun q hq e=>by have :=hR2 q hq;have :=Option.some.inj e;omega));have Y3:=hide (show Mem.Blk (w2.setCell ⟨Y,2,none⟩ (.string t.p)) Y #[.int .i64 t.d, .int .i64 t.i, .string t.p] 67 from Y2.put 2 (.string t.p));have y1:=Y2.cell 2;have f1:=Y2.fr 2;have hSz3:Y<(w2.setCell ⟨Y,2,none⟩ (.string t.p)).heap.size:=(za Y3).lt;simp only [kGs] at y1;clear HT5 HIZ5 HO5 Y1 Y2 K2 I2 O2 b2 bX bA HJ y0 gS c0 c1 c2 OM5 OM2;go_upto_region 17 with fail
       generalize w2.setCell ⟨Y,2,none⟩ (.string t.p)=w4 at K3 I3 O3 OM3 Y3 hSz3 ⊢;clear y1 f1;have y0:=(za Y3).cell 0;have y1:=(za Y3).cell 1;have y2:=(za Y3).cell 2;have o1:=(za K3).b3.cell 2;simp only [kGs] at y0 y1 y2 o1;have bB:Below w4.heap.size w4 (w4.alloc (.cells #[.int .i64 t.d, .int .i64 t.i, .string t.p] 67)):=bE0;have K4:=hide ((za K3).call bB);have I4:=hide ((za I3).call bB);have O4:=hide (Mem.zj0 (za O3) bB);have OM4:=hide (Mem.zj0 (za OM3) bB);have HNW:=hide (SpO.new_cells w4 [.int .i64 t.d, .int .i64 t.i, .string t.p] 67)
       go_wp2_with (first |(at_builtin;refine Mem.ze0 _ rfl _ _ 30 rfl S3 67 l0 _ 3 32 Tryz.underlying30 hl0 hlz0 hlz1 hlz2 rfl (by decide) (.slice b3 j cb3) j (Pl.cells3 Pl.Hn.cs L3) rfl (za O4) ⟨w4.heap.size,0,none⟩ 1 1 [.int .i64 t.d, .int .i64 t.i, .string t.p] rfl rfl (za HNW) (by simp [Value.oneCell']) (by unfold maxLen;omega) (by omega) (by have :=bB.size;omega) ?_;intro v' wD ownD grD farD;obtain ⟨b',cb',rfl⟩:=Mem.za7 ownD;have K5:=(za K4).grown grD (fun q hq=>by have :=(World.ownsRow.lt (za O4) q hq).1;omega);have o5:=K5.b3.cell 2;have f5:=K5.b3.fr 2;simp only [kGs] at o5)|fail)
       have I5:=(za I4).up (S2:=S2) grD (fun q hq=>by have :=(World.ownsRow.lt (za O4) q hq).1;omega) hR1 hH1;have K6:=hide (K5.put 2 (.slice b' (j+1) cb'));have I6:=hide (I5.far (Y:=w.heap.size+2) 2 (.slice b' (j+1) cb') hS1)
       have O6:Hid ((wD.setCell ⟨w.heap.size+2,2,none⟩ (.slice b' (j+1) cb')).ownsRow S3 67 3 (.slice b' (j+1) cb') (j+1) (Pl.cells3 Pl.Hn.cs (L3++[t]))):=hide (by
        rw [Pl.zt5,Pl.zr9]
        exact Mem.zk9 ownD (za1 _ _ _) (fun q hq e=>by have :=(World.ownsRow.lt ownD q hq).1;have :=Option.some.inj e;omega))
       have OM6:=hide (Mem.zk9 (Mem.zk9 (za OM4) grD (fun q hq e=>by have :=hR2 q hq;have :=(World.ownsRow.lt (za O4) q e.symm).1;omega)) (za1 (w:=wD) (w.heap.size+2) 2 (.slice b' (j+1) cb')) (fun q hq e=>by have :=(World.ownsRow.lt (za OM4) q hq).1;have :=Option.some.inj e;omega));have L6:Hid (L3++[t]=H.take (j+1)):=hide (by rw [za HL5,List.take_add_one,za HTt];rfl);have hS6:S3≤(wD.setCell ⟨w.heap.size+2,2,none⟩ (.slice b' (j+1) cb')).heap.size:=by rw [World.size_setCell];have :=grD.size;have :=bB.size;omega
       clear K3 I3 O3 K4 I4 O4 K5 I5 ownD grD farD HNW y0 y1 y2 o1 Y3 bB hYe hOB HTt HL5 OM3 OM4;go_wp2
       go_roundw
       case rel=>exact ⟨j+1,b',cb',L3++[t],by omega,by go_num,K6,I6,OM6,O6,L6,hS6⟩
       case measure=>simp [intOf];omega
      ·have u1:¬ (j:Int)<(H.length:Int):=by omega
       have hke2:j=H.length:=by omega
       subst hke2;have hLH:H=L3:=by rw [za HL5,List.take_of_length_le (Nat.le_refl _)]
       subst hLH;have b5:=(za HT5).bel;have bF:Below w.heap.size w ((((wr.setCell ⟨w.heap.size+1,0,none⟩ (.slice a N.length c)).setCell ⟨w.heap.size+1,1,none⟩ (.slice b M.length cb)).setCell ⟨w.heap.size+1,2,none⟩ (.slice b3 H.length cb3)).setCell ⟨w.heap.size+1,3,none⟩ (.int .i64 next)):=(((b5.setCell (by show w.heap.size≤w.heap.size+1;omega) _).setCell (by show w.heap.size≤w.heap.size+1;omega) _).setCell (by show w.heap.size≤w.heap.size+1;omega) _).setCell (by show w.heap.size≤w.heap.size+1;omega) _;have gF:wr.grownBy ((((wr.setCell ⟨w.heap.size+1,0,none⟩ (.slice a N.length c)).setCell ⟨w.heap.size+1,1,none⟩ (.slice b M.length cb)).setCell ⟨w.heap.size+1,2,none⟩ (.slice b3 H.length cb3)).setCell ⟨w.heap.size+1,3,none⟩ (.int .i64 next)) (some (w.heap.size+1)):=ye8 (ye8 (ye8 (za1 _ _ _)))
       have izF:Mem.Iz ((((wr.setCell ⟨w.heap.size+1,0,none⟩ (.slice a N.length c)).setCell ⟨w.heap.size+1,1,none⟩ (.slice b M.length cb)).setCell ⟨w.heap.size+1,2,none⟩ (.slice b3 H.length cb3)).setCell ⟨w.heap.size+1,3,none⟩ (.int .i64 next)) S1 (.slice a N.length c) Ds lo hi:=((((za HIZ5).far (Y:=w.heap.size+1) 0 _ (by omega)).far (Y:=w.heap.size+1) 1 _ (by omega)).far (Y:=w.heap.size+1) 2 _ (by omega)).far (Y:=w.heap.size+1) 3 _ (by omega);have omF:=Mem.zk9 (za OM5) gF (fun q hq e=>by have :=(World.ownsRow.lt (za OM5) q hq).1;have :=Option.some.inj e;omega);have ohF:=Mem.zk9 (za HO5) gF (fun q hq e=>by have :=(World.ownsRow.lt (za HO5) q hq).1;have :=Option.some.inj e;omega);have x0:=(za HT5).b3.cell 0;have x1:=(za HT5).b3.cell 1;have x2:=(za HT5).b3.cell 2;have x3:=(za HT5).b3.cell 3;have d0:=(za HT5).b2.cell 0;have d1:=(za HT5).b2.cell 1;have d2:=(za HT5).b2.cell 2
       have d3:=(za HT5).b2.cell 3;have f0:=(za HT5).b2.fr 0;have f1:=(za HT5).b2.fr 1;have f2:=(za HT5).b2.fr 2;have f3:=(za HT5).b2.fr 3;simp only [kGs] at x0 x1 x2 x3 d0 d1 d2 d3;have BF:=hide bF;have IF:=hide izF;have OF:=hide omF;have HF:=hide ohF;clear bF gF izF omF ohF HT5 HIZ5 OM5 HO5 HL5 b5 HHV HHP;go_wp2
       refine bodyPost_ret (v:= .agg #[.slice a N.length c, .slice b M.length cb, .slice b3 H.length cb3, .int .i64 next]) (by simp [results,Tryz.results36,go_sem,d0,d1,d2,d3]) rfl ⟨⟨⟨a,c,Ds,b,cb,M,b3,cb3,H,next⟩,by unfold Pl.Sp.cs;rw [za HDL],S1,S2,S3,lo,hi,⟨za HR0,rfl,rfl,rfl,by omega,by rw [za HDL];exact za IF,by rw [za HDL];exact hR1,hH1,za OF,hR2,hS12,hS23,za HF⟩⟩,za BF⟩
theorem told_any (s:Pl.Sp) (q:Nat) (E:List (Int × Pl.Nv)) (sa ta:Option Addr) (sc tc B:Nat) (w:World) (hG:SpO.SpV B w s q E sa sc ta tc) (hN:s.N.length≤12) (hM:s.M.length≤6) (hH:s.H.length≤6) (hrise:(s.N.map (·.d)).Pairwise (· < ·)) (hi64:∀d∈s.N.map (·.d),MapI.i64 d) (hI:∀x∈s.N,x.Is.length≤12) (hmp:∀m∈s.M,m.p.size≤1048576) (hhp:∀m∈s.H,m.p.size≤1048576):
  Calls Tryz.prog 36 #[.agg #[.map (some q), .slice sa s.M.length sc, .slice ta s.H.length tc, .int .i64 s.next]] w fun e w'=>(∃u S1 S2 S3 lo hi,e= .returned (.agg u.cs)∧SpO.Told w w' s u S1 S2 S3 lo hi)∧Below w.heap.size w w':=
 toldT_any s q E sa ta sc tc (q+1) w hG.tv hN hM hH hrise hi64 hI hmp hhp
end WSpI
end Go.Proofs.YtkighhofjmginaaGreatDoor
