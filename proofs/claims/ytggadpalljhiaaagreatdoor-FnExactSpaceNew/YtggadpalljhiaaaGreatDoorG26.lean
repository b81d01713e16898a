/- Several texts of one claim in one file: WItemsOf, WItemNe, MemFar. -/
import Derived.Test.YtggadpalljhiaaaGreatDoorG11
import Derived.Test.YtggadpalljhiaaaGreatDoorG10
import Derived.Test.YtggadpalljhiaaaGreatDoorG25
import Derived.Laws.IdiomRangeMap
import Derived.Test.YtggadpalljhiaaaGreatDoorG07
import Derived.Test.YtggadpalljhiaaaGreatDoorG04
import Derived.Laws.AppendOwn
import Derived.Deep.RegionHeld3
namespace Go.Proofs.YtggadpalljhiaaaGreatDoor
section
set_option linter.unusedSimpArgs false
open Go.RowKit Go.Maps
namespace WItemsOf
set_option maxRecDepth 100000 in
theorem rise_nil (w:World):
  Calls Tryz.prog 65 #[.map none] w fun e w'=>∃v,e= .returned v∧Mem.ownN w' w.heap.size v []∧Below w.heap.size w w':=by
 have hmk:=zj7.makeC 0 (by omega) w;rw [show ((0:Nat):Int)=0 from rfl] at hmk;have hr:∀W:World,(Instr.range 59 (.map none)).run Tryz.prog W= .ok (.pointer (some ⟨W.heap.size,0,none⟩)) (W.alloc (.mapIter none 0 #[] 0)):=fun W=>run_range_nilMap W _ _ _ Tryz.underlying59;have hnx:∀ (W:World) (ty:TypeId),(Instr.next (.pointer (some ⟨W.heap.size,0,none⟩)) false ty).run Tryz.prog (W.alloc (.mapIter none 0 #[] 0))= .ok (.tuple #[.bool false]) (W.alloc (.mapIter none 0 #[] 0)):=fun W ty=>run_next_nilMap W ty 0 0 #[]
 have OW0:Hid (Mem.ownN (w.alloc (.cells (zj7.zeros 0) 106)) w.heap.size (.slice (some ⟨w.heap.size,0,none⟩) 0 0) []):=
  ⟨rfl, .inr ⟨w.heap.size,_,_,rfl,Nat.le_refl _,heap_alloc_new _ _,Nat.zero_le _,by decide,size_madeCells _ _,rfl⟩⟩
 have hnx0:=hnx (w.alloc (.cells (zj7.zeros 0) 106));rw [show (w.alloc (.cells (zj7.zeros 0) 106)).heap.size=w.heap.size+1 by simp] at hnx0;have OW1:=hide (Mem.zv9 (za OW0) (.mapIter none 0 #[] 0));have hs:=hide (zj7.sort_own (.slice (some ⟨w.heap.size,0,none⟩) 0 0) w.heap.size [] ((w.alloc (.cells (zj7.zeros 0) 106)).alloc (.mapIter none 0 #[] 0)) (fun t ht=>by cases ht) (by simp) (za OW1));have b1:Below w.heap.size w ((w.alloc (.cells (zj7.zeros 0) 106)).alloc (.mapIter none 0 #[] 0)):=((Below.refl _ _).alloc (Nat.le_refl _) _).alloc (by simp) _;clear OW0;go_enter Tryz.func65,Tryz.ntmps65
 go_wp2
 go_loopw [3] (fun v wr=>v= .slice (some ⟨w.heap.size,0,none⟩) 0 0∧wr=(w.alloc (.cells (zj7.zeros 0) 106)).alloc (.mapIter none 0 #[] 0)) (fun _ _=>0)
 case atStart=>exact ⟨rfl,rfl⟩
 case round=>
  obtain ⟨rfl,rfl⟩:=hrel;go_wp2_with fail
  refine (za hs).mono ?_;rintro e w2 ⟨rfl,S,h1,h2,h3,h4⟩;have eS:S=[]:=List.Perm.eq_nil h1;subst eS;have O2:=hide h3;have bw:=b1.grown h4 b1.size (fun q hq=>by cases hq;exact Nat.le_refl _);clear hs h1 h2 h3 h4 b1 OW1 hr hnx hnx0 hmk;go_wp2
  go_ret
  exact ⟨_,rfl,za O2,bw⟩
def selfM (w:World) (qo:Option Nat) (L:List Pl.Nd):Prop:=(∃q,qo=some q∧Mem.ownM w q L)∨(qo=none∧L=[])
theorem selfM.call {w w':World} {qo:Option Nat} {L:List Pl.Nd} (h:selfM w qo L) (b:Below w.heap.size w w'):selfM w' qo L:=by
 rcases h with ⟨q,h1,h2⟩|h
 ·exact .inl ⟨q,h1,h2.call b⟩
 ·exact .inr h
theorem rise_self (qo:Option Nat) (L:List Pl.Nd) (w:World) (ht:Pl.ze2 L=true) (h:selfM w qo L):
  Calls Tryz.prog 65 #[.map qo] w fun e w'=>∃v,e= .returned v∧Mem.ownN w' w.heap.size v L∧Below w.heap.size w w':=by
 rcases h with ⟨q,rfl,hm⟩|⟨rfl,rfl⟩
 ·exact WViewI.rise_tree q L w ht hm
 ·exact rise_nil w
theorem infoI:(Tryz.prog.info? 56).map (fun i=>(i.zero,i.size,i.bytes))=some (some (.agg #[.int .i64 0, .slice none 0 0]),2,32):=by kernel_rfl
set_option maxRecDepth 100000 in
set_option maxHeartbeats 2000000 in
theorem items_of (n:Nat) (hn:n≤1000):∀ (N:Nat→Prop) (K:Pl.Fx) (L:List Pl.Nd) (qo:Option Nat) (m:Int) (v:Value) (w:World),K.sz<n→Pl.ze2 L=true→K.okX→selfM w qo L→Mem.layX w N K v→
  Calls Tryz.prog 40 #[.agg #[.map qo, .int .i64 m,v]] w fun e w'=>∃v' Is,e= .returned v'∧Mem.Io w' w.heap.size v' Is∧Is.map Pl.It.r=(m,L)::K.flat∧Below w.heap.size w w':=by
 obtain ⟨i0,hi,hz0,hz1,hz2⟩:=info_parts infoI
 induction n with
 |zero=>intro N K L qo m v w h;omega
 |succ n ih=>
  intro N K L qo m v w hs ht hx hm hl;have hKl:K.len≤1000:=by have :=K.len_le;omega
  obtain ⟨a,cap,rfl,hrow⟩:=hl;have b0:Below w.heap.size w (w.alloc (.cells #[.map qo, .int .i64 m, .slice a K.len cap] 64)):=(Below.refl _ _).alloc (Nat.le_refl _) _;have A0:=Mem.Blk.new w #[.map qo, .int .i64 m, .slice a K.len cap] 64;have hri:=hide (fun W (b:Below (w.alloc (.cells #[.map qo, .int .i64 m, .slice a K.len cap] 64)).heap.size (w.alloc (.cells #[.map qo, .int .i64 m, .slice a K.len cap] 64)) W)=>rise_self qo L W ht ((hm.call b0).call b))
  have HRW:Hid (K= .nil∨∃b',a=some ⟨b',0,none⟩∧Mem.rowX (w.alloc (.cells #[.map qo, .int .i64 m, .slice a K.len cap] 64)) (fun b=>b<w.heap.size) K b' 0):=by
   rcases hrow with h|⟨g,h1, -,h2⟩
   ·exact .inl h
   ·exact .inr ⟨g,h1,Mem.zs1 (Mem.zo7 (N':=fun b=>b<w.heap.size) (fun b _ hb=>⟨hb,hb,rfl⟩) K g 0 h2) b0⟩
  have HI:=hide (ih (by omega));have HKX:=hide hx;have c0:=A0.cell 0;have c1:=A0.cell 1;simp only [kGs] at c0 c1;have HX1:Hid (w.heap.size<(w.alloc (.cells #[.map qo, .int .i64 m, .slice a K.len cap] 64)).heap.size):=A0.lt;clear ih hrow hx hm ht;go_enter Tryz.func40,Tryz.ntmps40
  go_wp2_with fail
  generalize w.alloc (.cells #[.map qo, .int .i64 m, .slice a K.len cap] 64)=w1 at b0 A0 hri HRW c0 c1 HX1 ⊢;have MK:Hid (∀W',Below w1.heap.size w1 W'→(fun W'=>Below w1.heap.size w1 W'∧W'.cell? ⟨w.heap.size,0,none⟩=some (.map qo)∧W'.cell? ⟨w.heap.size,1,none⟩=some (.int .i64 m)) W'):=fun W' hb=>⟨hb,(hb.cell (p:=⟨w.heap.size,0,none⟩) (za HX1)).trans c0,(hb.cell (p:=⟨w.heap.size,1,none⟩) (za HX1)).trans c1⟩;clear c0 c1;refine wp_region_held_drew (S:=fun W'=>Below w1.heap.size w1 W'∧W'.cell? ⟨w.heap.size,0,none⟩=some (.map qo)∧W'.cell? ⟨w.heap.size,1,none⟩=some (.int .i64 m)) (by kernel_rfl) ?_ (fun hHeld=>?_)
  ·exact za MK _ (bD _)
  refine TB 0 ?_;refine TB 1 ?_;refine TB 2 ?_;refine TB 3 ?_;refine TB 4 ?_;refine TB 5 ?_;refine RN 6 fun K hK=>?_;go_simp
  refine (za hri _ hHeld.1).mono ?_;rintro e wX ⟨vr,rfl,ownr,bX⟩;obtain ⟨ra,rc,hvr⟩:=Mem.za4 ownr;subst hvr;have hlr:w.heap.size+1≤_:=Nat.le_trans (za HX1) hHeld.1.size;refine hK.out _ _ ?_ (fun hHeld=>?_)
  ·exact za MK _ (hHeld.1.trans (bX.mono hHeld.1.size))
  clear hK K
  try simp only [Act.put,kBs]
  refine TB 7 ?_;refine TB 8 ?_;refine RN 9 fun K hK=>?_;go_simp
  refine hK.out _ _ ?_ (fun hHeld=>?_)
  ·exact za MK _ (hHeld.1.alloc hHeld.1.size _)
  clear hK K
  try simp only [Act.put,kBs]
  refine TB 10 ?_;refine wpAnyH_done (by kernel_rfl) ?_ _;have hb3:=hHeld.1;have bw3:=b0.trans (hb3.mono b0.size);have bA:Below wX.heap.size wX (wX.alloc (.cells #[.int .i64 m, .slice ra L.length rc] 56)):=(Below.refl _ _).alloc (Nat.le_refl _) _;have IO0:Hid (Mem.Io (wX.alloc (.cells #[.int .i64 m, .slice ra L.length rc] 56)) (w.heap.size+1) (.slice (some ⟨wX.heap.size,0,none⟩) 1 1) [⟨m,⟨ra,rc,L⟩⟩]):=hide (Mem.Io.one (t:=⟨ra,rc,L⟩) (by have h2:=bX.size;omega) (heap_alloc_new _ _) (Mem.zp3 (Mem.zp7 ownr bA) hlr) (fun q hq e=>by have :=(Mem.zk8 ownr q hq).2;omega));have A3:=A0.call hb3
  have RW3:Hid (K= .nil∨∃b',a=some ⟨b',0,none⟩∧Mem.rowX (wX.alloc (.cells #[.int .i64 m, .slice ra L.length rc] 56)) (fun b=>b<w.heap.size) K b' 0):=by
   rcases za HRW with h|⟨g,h1,h2⟩
   ·exact .inl h
   ·exact .inr ⟨g,h1,Mem.zs1 h2 hb3⟩
  have c2:=A3.cell 2;simp only [kGs] at c2;have HSZ:Hid (w.heap.size+1≤(wX.alloc (.cells #[.int .i64 m, .slice ra L.length rc] 56)).heap.size):=hide (by have h1:=A3.lt;omega);clear hHeld MK hri HRW A0 A3 b0 ownr bX bA hb3 hlr;generalize wX.alloc (.cells #[.int .i64 m, .slice ra L.length rc] 56)=w3 at bw3 IO0 RW3 c2 HSZ ⊢;have IT0:Hid ((([⟨m,⟨ra,rc,L⟩⟩]:List Pl.It)).map Pl.It.r++K.flat=(m,L)::K.flat):=rfl;go_wp2
  go_loopw [3,19] (fun v i wr=>∃ (j:Nat) (Is:List Pl.It) (F:Pl.Fx),i= .int .i64 (j:Int)∧j+F.len=K.len∧F.sz≤n∧Hid (Is.length+F.sz=K.sz+1)∧Below w.heap.size w wr∧Hid (w.heap.size+1≤wr.heap.size)∧Hid (Mem.Io wr (w.heap.size+1) v Is)∧Hid (F= .nil∨∃b',a=some ⟨b',0,none⟩∧Mem.rowX wr (fun b=>b<w.heap.size) F b' (j*3))∧Hid F.okX∧Hid (Is.map Pl.It.r++F.flat=(m,L)::K.flat)) (fun _ i _=>K.len - (intOf i).toNat)
  case atStart=>exact ⟨0,_,K,rfl,by omega,by omega,hide (by simp;omega),bw3,HSZ,IO0,hide (by simpa using za RW3),HKX,IT0⟩
  case round=>
   obtain ⟨j,Is,F,rfl,hj,hsz,HIL,hbel,HSW,IO,HR,FX,IM⟩:=hrel;clear IO0 RW3 HSZ IT0 c2 bw3;cases F with
   |nil=>
    simp only [Pl.Fx.len] at hj;have u1:¬ (j:Int)<(K.len:Int):=by omega
    have E:Hid (Is.map Pl.It.r=(m,L)::K.flat):=hide (by have :=za IM;rw [Pl.Fx.flat,List.append_nil] at this;exact this);have IOM:=hide ((za IO).mono (show w.heap.size≤w.heap.size+1 by omega));clear IO HR FX IM HIL;go_wp2
    go_ret
    first |exact ⟨_,Is,rfl,za IOM,za E,hbel⟩|exact ⟨_,rfl,Is,za IOM,za E,hbel⟩
   |cons L1 k1 m1=>
    simp only [Pl.Fx.len,Pl.Fx.sz] at hj hsz;obtain ⟨g1,g2,g3,g5,g6⟩:=za FX
    rcases za HR with h|⟨g,rfl,hrw⟩
    ·cases h
    obtain ⟨⟨q1,a1,cap1,c0,c1,c2,hg,hNg,hNq,hm1,hsub⟩,hrest⟩:=hrw;have u1:(j:Int)<(K.len:Int):=by omega
    have u3:(0:Int)≤(j:Int):=by omega
    have HJ:=hide hj;have bA:Below wr.heap.size wr (wr.alloc (.cells #[.map (some q1), .int .i64 (k1.len:Int), .slice a1 k1.len cap1] 64)):=(Below.refl _ _).alloc (Nat.le_refl _) _;have HL:Mem.layX wr (fun b=>b<w.heap.size) k1 (.slice a1 k1.len cap1):=⟨a1,cap1,rfl,hsub⟩;have bw:=hbel.trans (bA.mono hbel.size);have hcall:=hide (za HI (fun b=>b<w.heap.size) k1 L1 (some q1) (k1.len:Int) _ _ (by omega) g1 g5 (.inl ⟨q1,rfl,hm1.call bA⟩) (Mem.zx4 HL bA));have HRR:=hide (Mem.zs1 hrest bA);have IA:=hide ((za IO).call bA);have G6:=hide g6;have HIL2:=HIL;have hlo:=(za IO).lt;have hsA:(wr.alloc (.cells #[.map (some q1), .int .i64 (k1.len:Int), .slice a1 k1.len cap1] 64)).heap.size=wr.heap.size+1:=by simp
    have HLO:=hide hlo;have HSA:=hide hsA;clear hsub hrest HL HR IO FX g1 g2 g5 g6 hm1 hlo hsA;go_wp2_with fail
    refine (za hcall).mono ?_;rintro e wX2 ⟨v1,Is1,rfl,io1,hr1,bX⟩;have bw2:=bw.trans (bX.mono bw.size);have hIl:Is1.length=k1.sz+1:=by have :=congrArg List.length hr1;rw [List.length_map,List.length_cons,Pl.Fx.flat_len] at this;exact this
    obtain ⟨gv,cv,hv1,hcv⟩:=io1.there (by omega);subst hv1;have O2:=(za IA).call bX;have HP:=hide (fun v' w4 own gr far=>O2.app io1 (v':=v') (W':=w4) (by have :=za HSW;have :=za HSA;omega) (fun g hg=>by have :=((za HLO).1 g hg).2;have :=za HSA;omega) (fun i x hx g hg=>by have :=((za HLO).2 i x hx g hg).2;have :=za HSA;omega) own gr far);have HQ:=hide (fun w4 (h2:wX2.grownBy w4 _)=>(⟨bw2.grown h2 bw2.size (fun k hk=>by have :=(O2.lt.1 k hk).1;omega),Mem.zo7 (fun b hb hlt=>⟨hb,Nat.lt_of_lt_of_le hlt h2.size,h2.block b hlt (fun e=>by have :=(O2.lt.1 b e.symm).1;omega)⟩) _ _ _ (Mem.zs1 (za HRR) bX)⟩:Below w.heap.size w w4∧Mem.rowX w4 (fun b=>b<w.heap.size) m1 g (j*3+3)));have HRO:=hide O2.row;have HSB:Hid (w.heap.size+1≤wX2.heap.size):=hide (by have h1:=za HSW;have h2:=bX.size;have h3:=za HSA;omega);have HCV:=hide hcv
    have IM2:Hid ((Is++Is1).map Pl.It.r++m1.flat=(m,L)::K.flat):=hide (by have h:=za IM;rw [Pl.Fx.flat] at h;rw [List.map_append,hr1,←h];simp);have HIL3:Hid ((Is++Is1).length+m1.sz=K.sz+1):=hide (by have h:=za HIL2;simp only [Pl.Fx.sz] at h;rw [List.length_append];omega);have hIs:Is.length≤1001:=by have h:=za HIL2;omega
    have hIs1:Is1.length≤1001:=by omega
    clear O2 IA io1 hr1 bX bw bw2 hcall HRR IM hcv HIL HIL2 HLO HSA bA hIl HSW hbel;go_wp2_with (at_builtin;refine Mem.zg1 _ rfl _ _ 32 rfl (w.heap.size+1) 56 i0 (.agg #[.int .i64 0, .slice none 0 0]) 2 32 Tryz.underlying32 hi hz0 hz1 hz2 rfl (by decide) _ _ _ rfl (za HRO) ⟨gv,0,none⟩ Is1.length cv (Pl.zb3 Is1) rfl (Pl.zu1 Is1) (za HCV) (Pl.yc Is1) (by unfold maxLen;omega) (by omega) (za HSB) ?_)
    intro v' w4 own' hgrow hfar;have I2:=hide (za HP v' w4 own' hgrow hfar);obtain ⟨bw4,HR2⟩:=za HQ w4 hgrow;have HR3:Hid (m1= .nil∨∃b',some ⟨g,0,none⟩=some (⟨b',0,none⟩:Addr)∧Mem.rowX w4 (fun b=>b<w.heap.size) m1 b' ((j+1)*3)):=hide (.inr ⟨g,rfl,by rw [show (j+1)*3=j*3+3 by omega];exact HR2⟩);have HS4:Hid (w.heap.size+1≤w4.heap.size):=hide (by have h1:=hgrow.size;have h2:=za HSB;omega);clear HP HQ HRO own' hgrow hfar HR2 HCV HSB;go_wp2
    go_roundw
    case rel=>exact ⟨j+1,Is++Is1,m1,by go_num,by have h:=za HJ;omega,by omega,HIL3,bw4,HS4,I2,HR3,G6,IM2⟩
    case measure=>(have h:=za HJ;simp [intOf];omega)
end WItemsOf
end
section
open Go.RowKit Go.Maps
namespace WSpI
theorem items_nest (m:Option Nat) (n:Nat) (a:Option Addr) (cap:Nat) (R:List (Int × List Pl.Nd)) (B:Nat) (w:World) (h:Mem.zh0 w B ⟨m,n,a,cap⟩ R) (hl:R.length≤12):
  Calls Tryz.prog 40 #[.agg #[.map m, .int .i64 (n:Int), .slice a n cap]] w fun e w'=>∃v' Is,e= .returned v'∧Mem.Io w' w.heap.size v' Is∧Is.map Pl.It.r=R∧Below w.heap.size w w':=by
 obtain ⟨L,k,q,h1,h2,⟨⟨h3,h4⟩,h5⟩,⟨h6,h7⟩,h8⟩:=h;simp only at h1 h2 h4 h8;subst h1 h2
 have hk:k.sz<1000:=by
  have :=congrArg List.length h7;rw [Pl.Fx.flat_len,Pl.Fx.sz,Pl.Fx.sz] at this;omega
 refine (WItemsOf.items_of 1000 (Nat.le_refl _) _ k L (some q) (k.len:Int) (.slice a k.len cap) w hk h6.1 h6.2.2.2.1 (.inl ⟨q,rfl,h5⟩) h8).mono fun e w' ⟨v',Is,g1,g2,g3,g4⟩=>⟨v',Is,g1,g2,?_,g4⟩;rw [g3,←h7];simp [Pl.Fx.flat]
end WSpI
end
section
open Go.RowKit
namespace Mem
theorem zd7 {w:World} {g o:Nat} {L:List Pl.Nd} (h:za7 w (some ⟨g,o,none⟩) L) (p:Addr) (v:Value) (hp:p.block≠g):za7 (w.setCell p v) (some ⟨g,o,none⟩) L:=fun i n hi=>by
 obtain ⟨g',o',h1,h2,h3,h4,h5,h6,h7⟩:=h i n hi;cases h1
 refine ⟨g,o,rfl,by simpa using h2,?_,?_,?_,?_,?_⟩ <;> (rw [World.cell?_setCell_far _ _ _ _ hp];assumption)
end Mem
end
end Go.Proofs.YtggadpalljhiaaaGreatDoor
