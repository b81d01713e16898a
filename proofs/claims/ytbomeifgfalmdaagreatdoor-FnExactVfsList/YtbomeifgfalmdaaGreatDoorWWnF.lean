import Derived.Test.YtbomeifgfalmdaaGreatDoorG34
set_option linter.unusedSimpArgs false
namespace Go.Proofs.YtbomeifgfalmdaaGreatDoor
open Go.RowKit
namespace WWn
set_option maxRecDepth 100000 in
set_option maxHeartbeats 4000000 in
theorem in_any (q:Nat) (m:Int) (v:Value) (p:ByteArray) (w:World):Calls Tryz.prog 94 #[.agg #[.map (some q), .int .i64 m,v], .string p] w fun e w'=>e= .returned (.func (.func 123) #[] #[.pointer (some ⟨w.heap.size,0,none⟩), .pointer (some ⟨w.heap.size+1,0,none⟩)])∧Below w.heap.size w w'∧Mem.Blk w' w.heap.size #[.map (some q), .int .i64 m,v] 135∧Mem.Blk w' (w.heap.size+1) #[.string p] 9∧w'.heap.size=w.heap.size+2:=by
 go_enter Tryz.func94,Tryz.ntmps94
 go_wp2
 go_ret
 exact ⟨rfl,(bE0).alloc (by simp) _,(Mem.Blk.new _ _ _).alloc _,WWk.blk_two _ _ _ _,by simp⟩
structure Sn (w W0:World) (bx:Array Value) (g cap:Nat) (l:List ByteArray) (f:ByteArray→Bool) (v:Value) (k:Nat) (W:World):Prop where
 bel:Below w.heap.size w W
 box:Mem.Blk W w.heap.size bx 135
 own:ze3.Own W (w.heap.size+1) v ((l.take k).filter f)
 row:ze3.Own W (w.heap.size+2) (.slice (some ⟨g,0,none⟩) l.length cap) l
 far:∀r,v.ownBlock=some r→r=w.heap.size+1∨W0.heap.size≤r
 hg:w.heap.size+2≤g∧g<W0.heap.size
 size:W0.heap.size≤W.heap.size
theorem Sn.call {w W0 W W':World} {bx:Array Value} {g cap k:Nat} {l:List ByteArray} {f:ByteArray→Bool} {v:Value} (h:Sn w W0 bx g cap l f v k W) (b:Below W.heap.size W W'):Sn w W0 bx g cap l f v k W':=
 ⟨h.bel.trans (b.mono h.bel.size),h.box.call b,h.own.call b,h.row.call b,h.far,h.hg,Nat.le_trans h.size b.size⟩
theorem Sn.put {w W0 W W':World} {bx:Array Value} {g cap k:Nat} {l:List ByteArray} {f:ByteArray→Bool} {v v':Value} (h:Sn w W0 bx g cap l f v k W) (hg:W.grownBy W' v.ownBlock) (ho:ze3.Own W' (w.heap.size+1) v' ((l.take (k+1)).filter f)) (hf:∀r,v'.ownBlock=some r→v.ownBlock=some r∨W.heap.size≤r):Sn w W0 bx g cap l f v' (k+1) W':=by
 refine ⟨h.bel.grown hg h.bel.size (fun r e=>by have :=(h.own.lt r e).1;omega),h.box.grown hg (fun e=>by have :=(h.own.lt _ e.symm).1;omega),ho,h.row.grown hg (fun r e e2=>?_),fun r e=>?_,h.hg,Nat.le_trans h.size hg.size⟩
 ·cases e
  have :=h.far g e2.symm;have :=h.hg;omega
 ·rcases hf r e with h1|h1
  ·exact h.far r h1
  ·exact .inr (Nat.le_trans h.size h1)
theorem Sn.same {w W0 W:World} {bx:Array Value} {g cap k:Nat} {l:List ByteArray} {f:ByteArray→Bool} {v:Value} (h:Sn w W0 bx g cap l f v k W) (e:(l.take (k+1)).filter f=(l.take k).filter f):Sn w W0 bx g cap l f v (k+1) W:=
 ⟨h.bel,h.box,by rw [e];exact h.own,h.row,h.far,h.hg,h.size⟩
theorem take_filter {l:List ByteArray} {k:Nat} {t:ByteArray} (h:l[k]? =some t) (f:ByteArray→Bool):(l.take (k+1)).filter f=(l.take k).filter f++if f t=true then [t] else []:=by
 have h1:=List.getElem?_eq_some_iff.1 h;rw [List.take_succ_eq_append_getElem h1.1,h1.2,List.filter_append];by_cases hf:f t=true
 ·simp [hf]
 ·simp [hf]
structure Lk (W W':World) (O:Option Pl.Nd) (Y:Nat) (b:Bool):Prop where
 bel:Below W.heap.size W W'
 told:b=O.isSome
set_option maxRecDepth 100000 in
set_option maxHeartbeats 4000000 in
theorem seen_any (L:List Pl.Nd) (K:Pl.Fx) (qm:Nat) (a:Option Addr) (cap:Nat) (q:ByteArray) (w:World)
  (hx:(Pl.Fx.cons L K .nil).okX) (hm:Mem.ownM w qm L) (hl:Mem.layX w (fun j=>j<w.heap.size) K (.slice a K.len cap)) (h12:(Pl.za8 (.cons L K .nil)).length≤12) (hq:q.size≤8000)
  (hj:∀t,(∃M∈Pl.za8 (.cons L K .nil),t∈Pl.zb2 q M)→t.size≤8000∧Pl.za0 (Pl.ze8 q t).1=true) (WO:List ByteArray)
  (hWO:∀l,Pl.Rise l→(∀t,t∈l↔∃M∈Pl.za8 (.cons L K .nil),t∈Pl.zb2 q M)→l.filter (fun t=>(Pl.zc9 L K (Pl.ze8 q t).1).isSome)=WO):
  Calls Tryz.prog 60 #[.agg #[.map (some qm), .int .i64 (K.len:Int), .slice a K.len cap], .string q] w fun e w'=>∃v,e= .returned v∧ze3.Own w' w.heap.size v WO∧Below w.heap.size w w':=by
 obtain ⟨i0,hi,hz0,hz1,hz2⟩:=info_parts zn4.zq6;have b0:Below w.heap.size w ((w.alloc (.cells #[.map (some qm), .int .i64 (K.len:Int), .slice a K.len cap] 135)).alloc (.cells #[] 9)):=(bE0).alloc (by simp) _;have X0:=(Mem.Blk.new w #[.map (some qm), .int .i64 (K.len:Int), .slice a K.len cap] 135).alloc (.cells #[] 9)
 have O0:((w.alloc (.cells #[.map (some qm), .int .i64 (K.len:Int), .slice a K.len cap] 135)).alloc (.cells #[] 9)).ownsRow (w.heap.size+1) 9 1 (.slice (some ⟨w.heap.size+1,0,none⟩) 0 0) 0 []:=
  ⟨rfl, .inr ⟨w.heap.size+1,0,#[],rfl,Nat.le_refl _,Mem.zh9 _ _ _,Nat.le_refl _,Nat.zero_le _,rfl,rfl⟩⟩
 have z0:((w.alloc (.cells #[.map (some qm), .int .i64 (K.len:Int), .slice a K.len cap] 135)).alloc (.cells #[] 9)).heap.size=w.heap.size+2:=by simp
 have HF:=hide (⟨hx,hm,hl⟩:_∧_∧_);have HWO:=hide hWO;have HJ:=hide hj;have H0:=hide (⟨b0,X0,O0,z0⟩:_∧_∧_∧_);obtain ⟨x0,x1,x2⟩:=jc3 X0;clear hx hm hl hWO hj b0 X0 O0 z0;go_enter Tryz.func60,Tryz.ntmps60
 go_wp2_with fail
 generalize (w.alloc (.cells #[.map (some qm), .int .i64 (K.len:Int), .slice a K.len cap] 135)).alloc (.cells #[] 9)=w1 at H0 ⊢;obtain ⟨b0,X0,O0,z0⟩:=za H0;refine (in_any qm (K.len:Int) (.slice a K.len cap) q w1).mono ?_;rintro e w2 ⟨rfl,b2,n2,p2,z2⟩;obtain ⟨hx,hm,hl⟩:=za HF;rw [z0] at n2 p2 z2;have HO:=hide (Rng.order_names w L K qm a cap q (w.heap.size+2) (w.heap.size+2+1) w2 (by omega) hx hm hl ((Rng.Keep.of_below b0).trans (Rng.Keep.of_below b2)) n2 p2 h12);have HB:=hide (⟨b0.trans (b2.mono b0.size),X0.call b2,Mem.zd0 O0 b2⟩:_∧_∧_);clear b0 X0 O0 H0 b2 n2 p2 hx hm hl;go_wp2_with fail
 refine (za HO).mono ?_;rintro e w3 ⟨v,l,rfl,r1,r2,r3,r4,r5⟩;obtain ⟨b3,X3,O3⟩:=za HB;have b3':=b3.trans (r5.mono b3.size);have X3':=X3.call r5;have O3':=Mem.zd0 O3 r5;have hs3:=r5.size;have EW:=hide (za HWO l r3 r1);have HJ2:=hide (fun t ht=>za HJ t ((r1 t).1 ht))
 rcases r4.2 with ⟨rfl,hz⟩|⟨g,cp,cur,rfl,hbase,hgb,q1,q2,q3,q4⟩
 ·obtain rfl:l=[]:=List.eq_nil_of_length_eq_zero hz;have hW: []=WO:=za EW;subst hW;have HE:=hide (⟨b3',O3'⟩:_∧_);clear HO HB b3 X3 O3 b3' X3' O3' r1 r2 r3 r4 r5 EW HJ2 HJ HWO x0 x1 x2;go_wp2
  go_loopw [5,16] (fun v i wr=>v= .slice (some ⟨w.heap.size+1,0,none⟩) 0 0∧i= .int .i64 0∧wr=w3) (fun _ _ _=>0)
  case atStart=>exact ⟨rfl,rfl,rfl⟩
  case round=>
   obtain ⟨rfl,rfl,rfl⟩:=hrel;go_wp2
   go_ret
   exact ⟨_,rfl,Mem.zg (za HE).2 (show w.heap.size≤w.heap.size+1 by omega),(za HE).1⟩
 ·have HG:=hide (⟨b3',X3',O3',Mem.zg r4 (show w.heap.size+2≤w2.heap.size by omega),fun r e=>by cases e;exact .inl rfl,⟨by omega,(Array.getElem?_eq_some_iff.1 hgb).1⟩,Nat.le_refl _⟩:Sn w w3 #[.map (some qm), .int .i64 (K.len:Int), .slice a K.len cap] g cp l (fun t=>(Pl.zc9 L K (Pl.ze8 q t).1).isSome) _ 0 w3);clear HO HB b3 X3 O3 b3' X3' O3' r1 r3 r4 r5 HJ HWO q1 q2 q3 q4 hgb x0 x1 x2;go_wp2
  go_loopw [5,16] (fun v i wr=>∃k:Nat,k≤l.length∧i= .int .i64 (k:Int)∧Hid (Sn w w3 #[.map (some qm), .int .i64 (K.len:Int), .slice a K.len cap] g cp l (fun t=>(Pl.zc9 L K (Pl.ze8 q t).1).isSome) v k wr)) (fun _ i _=>l.length - (intOf i).toNat)
  case atStart=>exact ⟨0,Nat.zero_le _,rfl,HG⟩
  case round=>
   obtain ⟨k,hk,rfl,HS⟩:=hrel;clear HG;by_cases hlt:k<l.length
   ·obtain ⟨t,ht⟩:∃t,l[k]? =some t:=⟨_,List.getElem?_eq_getElem hlt⟩
    have hc:wr.cell? ⟨g,k,none⟩=some (.string t):=by
     rcases Mem.zd7 (za HS).row with ⟨h5,_⟩|⟨b,o,c,h5,_,h6⟩
     ·cases h5
     ·cases h5
      have h7:=h6 k t ht
      rwa [Nat.zero_add] at h7
    have y1:(k:Int)<(l.length:Int):=by omega
    have y2:0≤(k:Int):=by omega
    obtain ⟨hj1,hj2⟩:=za HJ2 t (List.mem_of_getElem? ht);have HTF:=hide (take_filter ht (fun t=>(Pl.zc9 L K (Pl.ze8 q t).1).isSome));have HJO:=hide (fun W=>zh0.join_any q t W (by omega) (by omega))
    have HW:Hid (∀W,Below w.heap.size w W→Calls Tryz.prog 91 #[.agg #[.map (some qm), .int .i64 (K.len:Int), .slice a K.len cap], .string (Pl.ze8 q t).1] W fun e W'=>(∃ (n:Pl.Nd) (b:Bool),e= .returned (.tuple #[.agg #[.string n.path, .int .i64 n.kind, .string n.data, .int .i64 n.time, .int .i64 0], .bool b])∧(Pl.zc9 L K (Pl.ze8 q t).1).isSome=b)∧Below W.heap.size W W'):=fun W bb=>by
     obtain ⟨hx,hm,hl⟩:=za HF;refine (WWk.walk_any K.shape.depth K L qm (K.len:Int) (.slice a K.len cap) (Pl.ze8 q t).1 W (Nat.le_refl _) hx.2.2.1 hx.2.2.2.1 hx.1 (hm.call bb) (Mem.zr6 (Mem.zo1 hl bb) (fun b _ hb=>hb)) hj2).mono ?_;rintro e W' ⟨⟨n,b,rfl,hO⟩,b2⟩;refine ⟨⟨n,b,rfl,?_⟩,b2⟩;rw [hO];cases b <;> rfl
    have HTX:Hid (∃k1 c1,Pl.tOut (Pl.ze8 q t)= .agg #[.string (Pl.ze8 q t).1,k1,c1]):=⟨_,_,rfl⟩;clear ht hj1 hj2;generalize Pl.zc9 L K (Pl.ze8 q t).1=O at HW HTF;generalize (Pl.ze8 q t)=JT at HJO HW HTX
    -- BEGIN
    obtain ⟨jp,jc⟩:=JT;simp only [Pl.tOut] at HJO HW;have hfd:∀ (x:ByteArray) (c:Int) (W:World),(Instr.field 186 (.agg #[.string x, .int .i64 0, .int .i64 c]) 0).run Tryz.prog W= .ok (.string x) W:=fun _ _ _=>by kernel_rfl
    have MK:Hid (∀W',Below wr.heap.size wr W'→(W'.cell? ⟨w.heap.size,0,none⟩=some (.map (some qm))∧W'.cell? ⟨w.heap.size,1,none⟩=some (.int .i64 (K.len:Int))∧W'.cell? ⟨w.heap.size,2,none⟩=some (.slice a K.len cap))):=hide fun W' bb=>by
     have h5:=(za HS).box.call bb;obtain ⟨h6,h7,h8⟩:=jc3 h5;exact ⟨h6,h7,h8⟩
    have bS:=(za HS).bel;clear HTX;go_wp2_with fail
    refine wp_merge (R:=fun T0 T' W=>∃ (Y:Nat) (np:ByteArray) (nk:Int) (nd:ByteArray) (nt:Int) (b:Bool),T'=(((((((((((T0).setIfInBounds 21 (.agg #[.map (some qm), .int .i64 (K.len:Int), .slice a K.len cap])).setIfInBounds 22 (.string q)).setIfInBounds 23 (.string t)).setIfInBounds 24 (.agg #[.string jp, .int .i64 0, .int .i64 jc])).setIfInBounds 25 (.string jp)).setIfInBounds 26 (.tuple #[.agg #[.string np, .int .i64 nk, .string nd, .int .i64 nt, .int .i64 0], .bool b])).setIfInBounds 20 (.tuple #[.agg #[.string np, .int .i64 nk, .string nd, .int .i64 nt, .int .i64 0], .bool b])).setIfInBounds 27 (.agg #[.string np, .int .i64 nk, .string nd, .int .i64 nt, .int .i64 0])).setIfInBounds 28 (.bool b)).setIfInBounds 8 (.pointer (some ⟨Y,0,none⟩))).setIfInBounds 9 (.bool b)∧Lk wr W O Y b) ?_ ?_
    ·refine wp_region_held_drew (S:=fun W'=>W'.cell? ⟨w.heap.size,0,none⟩=some (.map (some qm))∧W'.cell? ⟨w.heap.size,1,none⟩=some (.int .i64 (K.len:Int))∧W'.cell? ⟨w.heap.size,2,none⟩=some (.slice a K.len cap)) (by kernel_rfl) ?_ (fun hHeld=>?_)
     ·exact za MK _ (bD _)
     have bel:=bD (n:=wr.heap.size) wr;generalize wr.drew=D0 at hHeld bel ⊢;clear hc y1 y2;refine TB 0 ?_;refine TB 1 ?_;refine TB 2 ?_;refine wpAnyH_ready (rs:=[3,9]) (by kernel_rfl) (by simp) ?_;refine AllReadyH.cons rfl (fun K' hK=>?_) (AllReadyH.cons rfl (fun K' hK=>?_) AllReadyH.nil)
     ·skip
      go_simp
      refine (za HJO _).mono ?_;rintro e D1 ⟨rfl,bX⟩;replace bel:=bel.trans (bX.mono bel.size);refine hK.out _ _ (za MK _ bel) (fun hHeld0=>?_);clear hK K'
      try simp only [Act.put,kBs]
      refine TB 4 ?_;refine wpAnyH_ready (rs:=[5,9]) (by kernel_rfl) (by simp) ?_;refine AllReadyH.cons rfl (fun K' hK=>?_) (AllReadyH.cons rfl (fun K' hK=>?_) AllReadyH.nil)
      ·skip
       go_simp
       refine (za HW _ (bS.trans (bel.mono bS.size))).mono ?_;rintro e D2 ⟨⟨⟨np,nk,nd,nt,nm⟩,b,rfl,hO⟩,bX⟩;replace bel:=bel.trans (bX.mono bel.size);refine hK.out _ _ (za MK _ bel) (fun hHeld1=>?_);clear hK K'
       try simp only [Act.put,kBs]
       refine TB 6 ?_;refine TB 7 ?_;refine TB 8 ?_;refine RN 9 fun K' hK=>?_;go_simp
       have bA:Below D2.heap.size D2 (D2.alloc (.cells #[.string ⟨#[]⟩, .int .i64 0, .string ⟨#[]⟩, .int .i64 0, .int .i64 0] 55)):=bE0;have YY:=Mem.Blk.new D2 #[.string ⟨#[]⟩, .int .i64 0, .string ⟨#[]⟩, .int .i64 0, .int .i64 0] 55;have hY:wr.heap.size≤D2.heap.size:=bel.size;replace bel:=bel.trans (bA.mono bel.size);generalize D2.alloc (.cells #[.string ⟨#[]⟩, .int .i64 0, .string ⟨#[]⟩, .int .i64 0, .int .i64 0] 55)=D3 at bA YY bel ⊢;generalize D2.heap.size=Y at YY hY ⊢;refine hK.out _ _ (za MK _ bel) (fun hHeld2=>?_);clear hK K'
       try simp only [Act.put,kBs]
       refine RN 10 fun K' hK=>?_;obtain ⟨⟨e0,e1,e2,e3,e4⟩,g0,g1,g2,g3,g4⟩:=jf5 YY;go_simp
       clear e0 e1 e2 e3 e4 g0 g1 g2 g3 g4;replace bel:=((((bel.setCell (p:=⟨Y,0,none⟩) hY (.string np)).setCell (p:=⟨Y,1,none⟩) hY (.int .i64 nk)).setCell (p:=⟨Y,2,none⟩) hY (.string nd)).setCell (p:=⟨Y,3,none⟩) hY (.int .i64 nt)).setCell (p:=⟨Y,4,none⟩) hY (.int .i64 0);refine hK.out _ _ (za MK _ bel) (fun hHeld3=>?_);clear hK K'
       try simp only [Act.put,kBs]
       refine TB 11 ?_;refine wpAnyH_done (by kernel_rfl) ?_ _;refine ⟨rfl,rfl,Y,np,nk,nd,nt,b,?_,⟨bel,hO.symm⟩⟩;simp only [kB3,kB4,kB5]
      ·skip
       go_simp
       have bA:Below D1.heap.size D1 (D1.alloc (.cells #[.string ⟨#[]⟩, .int .i64 0, .string ⟨#[]⟩, .int .i64 0, .int .i64 0] 55)):=bE0;have YY:=Mem.Blk.new D1 #[.string ⟨#[]⟩, .int .i64 0, .string ⟨#[]⟩, .int .i64 0, .int .i64 0] 55;have hY:wr.heap.size≤D1.heap.size:=bel.size;replace bel:=bel.trans (bA.mono bel.size);generalize D1.alloc (.cells #[.string ⟨#[]⟩, .int .i64 0, .string ⟨#[]⟩, .int .i64 0, .int .i64 0] 55)=D9 at bA YY bel ⊢;generalize D1.heap.size=Y at YY hY ⊢;refine hK.out _ _ (za MK _ bel) (fun hHeld4=>?_);clear hK K'
       try simp only [Act.put,kBs]
       refine RN 5 fun K' hK=>?_;go_simp
       refine (za HW _ (bS.trans (bel.mono bS.size))).mono ?_;rintro e D2 ⟨⟨⟨np,nk,nd,nt,nm⟩,b,rfl,hO⟩,bX⟩;replace bel:=bel.trans (bX.mono bel.size);replace YY:=YY.call bX;refine hK.out _ _ (za MK _ bel) (fun hHeld5=>?_);clear hK K'
       try simp only [Act.put,kBs]
       refine TB 6 ?_;refine TB 7 ?_;refine TB 8 ?_;refine RN 10 fun K' hK=>?_;obtain ⟨⟨e0,e1,e2,e3,e4⟩,g0,g1,g2,g3,g4⟩:=jf5 YY;go_simp
       clear e0 e1 e2 e3 e4 g0 g1 g2 g3 g4;replace bel:=((((bel.setCell (p:=⟨Y,0,none⟩) hY (.string np)).setCell (p:=⟨Y,1,none⟩) hY (.int .i64 nk)).setCell (p:=⟨Y,2,none⟩) hY (.string nd)).setCell (p:=⟨Y,3,none⟩) hY (.int .i64 nt)).setCell (p:=⟨Y,4,none⟩) hY (.int .i64 0);refine hK.out _ _ (za MK _ bel) (fun hHeld6=>?_);clear hK K'
       try simp only [Act.put,kBs]
       refine TB 11 ?_;refine wpAnyH_done (by kernel_rfl) ?_ _;refine ⟨rfl,rfl,Y,np,nk,nd,nt,b,?_,⟨bel,hO.symm⟩⟩;simp only [kB3,kB4,kB5]
     ·skip
      go_simp
      have bA:Below D0.heap.size D0 (D0.alloc (.cells #[.string ⟨#[]⟩, .int .i64 0, .string ⟨#[]⟩, .int .i64 0, .int .i64 0] 55)):=bE0;have YY:=Mem.Blk.new D0 #[.string ⟨#[]⟩, .int .i64 0, .string ⟨#[]⟩, .int .i64 0, .int .i64 0] 55;have hY:wr.heap.size≤D0.heap.size:=bel.size;replace bel:=bel.trans (bA.mono bel.size);generalize D0.alloc (.cells #[.string ⟨#[]⟩, .int .i64 0, .string ⟨#[]⟩, .int .i64 0, .int .i64 0] 55)=D9 at bA YY bel ⊢;generalize D0.heap.size=Y at YY hY ⊢;refine hK.out _ _ (za MK _ bel) (fun hHeld7=>?_);clear hK K'
      try simp only [Act.put,kBs]
      refine RN 3 fun K' hK=>?_;go_simp
      refine (za HJO _).mono ?_;rintro e D1 ⟨rfl,bX⟩;replace bel:=bel.trans (bX.mono bel.size);refine hK.out _ _ (za MK _ bel) (fun hHeld8=>?_);clear hK K'
      try simp only [Act.put,kBs]
      replace YY:=YY.call bX;refine TB 4 ?_;refine RN 5 fun K' hK=>?_;go_simp
      refine (za HW _ (bS.trans (bel.mono bS.size))).mono ?_;rintro e D2 ⟨⟨⟨np,nk,nd,nt,nm⟩,b,rfl,hO⟩,bX⟩;replace bel:=bel.trans (bX.mono bel.size);replace YY:=YY.call bX;refine hK.out _ _ (za MK _ bel) (fun hHeld9=>?_);clear hK K'
      try simp only [Act.put,kBs]
      refine TB 6 ?_;refine TB 7 ?_;refine TB 8 ?_;refine RN 10 fun K' hK=>?_;obtain ⟨⟨e0,e1,e2,e3,e4⟩,g0,g1,g2,g3,g4⟩:=jf5 YY;go_simp
      clear e0 e1 e2 e3 e4 g0 g1 g2 g3 g4;replace bel:=((((bel.setCell (p:=⟨Y,0,none⟩) hY (.string np)).setCell (p:=⟨Y,1,none⟩) hY (.int .i64 nk)).setCell (p:=⟨Y,2,none⟩) hY (.string nd)).setCell (p:=⟨Y,3,none⟩) hY (.int .i64 nt)).setCell (p:=⟨Y,4,none⟩) hY (.int .i64 0);refine hK.out _ _ (za MK _ bel) (fun hHeld10=>?_);clear hK K'
      try simp only [Act.put,kBs]
      refine TB 11 ?_;refine wpAnyH_done (by kernel_rfl) ?_ _;refine ⟨rfl,rfl,Y,np,nk,nd,nt,b,?_,⟨bel,hO.symm⟩⟩;simp only [kB3,kB4,kB5]
    intro T' W ⟨Y,np,nk,nd,nt,b,hT,hLk⟩;simp only [kB3,kB4,kB5] at hT;subst hT;have hbel:=hLk.bel;have hb:=hLk.told;have S1:=(za HS).call hbel;have TF:=za HTF;cases b with
    |false=>
     rw [if_neg (show ¬_=true from fun h=>by rw [show _=O.isSome from rfl,←hb] at h;cases h),List.append_nil] at TF;have S2:=hide (S1.same TF);clear HS HTF TF S1 hLk hbel hb MK bS HJO HW hfd hc;go_wp2
     go_roundw
     case rel=>exact ⟨k+1,by omega,by go_num,S2⟩
     case measure=>simp [intOf];omega
    |true=>
     rw [if_pos (show _=true from hb.symm)] at TF;have S2:=hide S1;have HTG:=hide TF;have HSZ:=hide (S1.bel.size);have hlk:((l.take k).filter (fun t=>(Pl.zc9 L K (Pl.ze8 q t).1).isSome)).length≤480:=Nat.le_trans (List.length_filter_le _ _) (by rw [List.length_take];omega);clear HS HTF TF S1 hLk hbel hb MK bS HJO HW hfd hc;go_wp2_with (at_builtin;refine Mem.zi9 _ rfl _ _ 33 rfl (w.heap.size+1) 9 i0 (.string ⟨#[]⟩) 1 16 Tryz.underlying33 hi hz0 hz1 hz2 rfl (by decide) _ _ _ rfl ((za S2).own.alloc _) ⟨W.heap.size,0,none⟩ 1 1 [.string t] rfl rfl (Mem.ze6 _ _ _) (fun u hu=>by simp at hu;subst hu;rfl) (by unfold maxLen;omega) (by omega) (by have h1:=(za S2).size;have h2:=(za S2).hg;simp;omega) ?_)
     intro v' wZ hownZ hgrow hfar;have S4:=hide (Sn.put ((za S2).call ((Below.refl _ _).alloc (Nat.le_refl _) (.cells #[.string t] 9))) hgrow (by rw [za HTG];exact zn4.own_snoc hownZ) (fun r e=>(hfar r e).imp_right (fun h=>by rw [World.size_alloc];exact h)));clear S2 hownZ hgrow hfar HTG;go_wp2
     go_roundw
     case rel=>exact ⟨k+1,by omega,by go_num,S4⟩
     case measure=>simp [intOf];omega
   ·obtain rfl:k=l.length:=by omega
    have hW:=(za HS).own;rw [List.take_length,za EW] at hW;have HE:=hide (⟨(za HS).bel,hW⟩:_∧_);have y1:¬ ((l.length:Int)<(l.length:Int)):=by omega
    clear HS hW;go_wp2
    go_ret
    exact ⟨_,rfl,Mem.zg (za HE).2 (show w.heap.size≤w.heap.size+1 by omega),(za HE).1⟩
end WWn
end Go.Proofs.YtbomeifgfalmdaaGreatDoor
