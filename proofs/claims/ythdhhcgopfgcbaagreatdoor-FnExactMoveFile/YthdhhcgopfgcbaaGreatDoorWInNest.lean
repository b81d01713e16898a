import Derived.Test.YthdhhcgopfgcbaaGreatDoorG21
import Derived.Test.YthdhhcgopfgcbaaGreatDoorG33
import Derived.Test.YthdhhcgopfgcbaaGreatDoorG45
namespace Go.Proofs.YthdhhcgopfgcbaaGreatDoor
open Go.RowKit Go.Maps
namespace zp2
open ze6
structure EndsN (W w':World) (e:Ending) (c:Int) (XS:List (Int × List Pl.Nd)):Prop where
 out:(c=0∧∃v Is,e= .returned v∧Mem.Io w' W.heap.size v Is∧Is.map Pl.It.r=XS)∨(c≠0∧XS=[]∧e= .panicked (pnc c))
 bel:Below W.heap.size W w'
structure Hn (w W:World) (n:Pl.Nd) (Fp Fl:FuncId) (X5 q:Nat) (a1:Option Addr) (cap1:Nat) (L:List Pl.Nd) (K:Pl.Fx) (qs:Nat) (S:List Pl.Nd):Prop where
 bel:Below w.heap.size w W
 chg:Mem.Blk W w.heap.size (ze6.chg n Fp Fl) 96
 nest:Mem.Blk W X5 #[.map (some q), .int .i64 (K.len:Int), .slice a1 K.len cap1] 83
 lx:w.heap.size<X5
 own:Mem.ownM W q L
 lay:Mem.layX W (fun b=>w.heap.size≤b) K (.slice a1 K.len cap1)
 ap:Mem.apart W q K (.slice a1 K.len cap1)
 seen:Mem.ownM W qs S
 qlt:w.heap.size≤q∧∀j∈q::Mem.zn0 W K (.slice a1 K.len cap1),j<qs
theorem Hn.call {w W W':World} {n:Pl.Nd} {Fp Fl:FuncId} {X5 q:Nat} {a1:Option Addr} {cap1:Nat} {L:List Pl.Nd} {K:Pl.Fx} {qs:Nat} {S:List Pl.Nd} (h:Hn w W n Fp Fl X5 q a1 cap1 L K qs S) (b:Below W.heap.size W W'):Hn w W' n Fp Fl X5 q a1 cap1 L K qs S:=
 ⟨h.bel.trans (b.mono h.bel.size),h.chg.call b,h.nest.call b,h.lx,h.own.call b,Mem.zk4 h.lay b,Mem.zo3 h.lay h.ap b,h.seen.call b,h.qlt.1,by rw [Mem.zs6 (fun j _ hj=>b.block j hj) h.lay];exact h.qlt.2⟩
theorem Hn.drew {w W:World} {n:Pl.Nd} {Fp Fl:FuncId} {X5 q:Nat} {a1:Option Addr} {cap1:Nat} {L:List Pl.Nd} {K:Pl.Fx} {qs:Nat} {S:List Pl.Nd} (h:Hn w W n Fp Fl X5 q a1 cap1 L K qs S):Hn w W.drew n Fp Fl X5 q a1 cap1 L K qs S:=h.call ⟨rfl,rfl,rfl,Nat.le_refl _,fun _ _=>rfl⟩
structure Gn (w W:World) (n:Pl.Nd) (Fp Fl:FuncId) (X5 q:Nat) (a1:Option Addr) (cap1:Nat) (L:List Pl.Nd) (K:Pl.Fx) (qs:Nat) (S:List Pl.Nd) (qf Y:Nat) (lev:Int):Prop where
 hn:Hn w W n Fp Fl X5 q a1 cap1 L K qs S
 gr:Mem.Blk W Y #[.map (some qf), .map (some qs), .int .i64 lev] 135
 ly:w.heap.size<Y
 fst:Mem.zn5 W K q (.slice a1 K.len cap1) qf
 leaf:Mem.ownM W qf (Pl.zd6 L K)
 ne:qf≠qs∧w.heap.size≤qf
theorem first_in {w W:World} {n:Pl.Nd} {Fp Fl:FuncId} {X5 q:Nat} {a1:Option Addr} {cap1:Nat} {L:List Pl.Nd} {K:Pl.Fx} {qs:Nat} {S:List Pl.Nd} {qf:Nat} (h:Hn w W n Fp Fl X5 q a1 cap1 L K qs S) (hf:Mem.zn5 W K q (.slice a1 K.len cap1) qf):qf≠qs∧w.heap.size≤qf:=by
 rcases hf with ⟨rfl,rfl⟩|⟨hk,b,n',cap',e1,e2⟩
 ·have :=h.qlt.2 qf (List.mem_cons_self ..);exact ⟨by omega,h.qlt.1⟩
 ·injection e1 with e1 e3 e4
  obtain ⟨a,cap,e5,h6⟩:=h.lay
  injection e5 with e5 e7 e8
  rcases h6 with h6|⟨b',e9,h10,h11⟩
  ·exact absurd h6 hk
  rw [←e5,e1] at e9;cases e9
  have hm:qf∈Mem.zj7 W K b 0:=by rw [e2];exact Mem.firstQ_mem K b 0 hk h11
  have h12:Mem.zn0 W K (.slice a1 K.len cap1)=Mem.zj7 W K b 0:=by rw [e1];rfl
  have h13:=h.qlt.2 qf (List.mem_cons_of_mem _ (by rw [h12];exact hm));exact ⟨by omega,(Mem.mapsR_in K b 0 h11 qf hm).1⟩
theorem first_call {W W':World} {N:Nat→Prop} {K:Pl.Fx} {q qf:Nat} {v:Value} (b:Below W.heap.size W W') (hl:Mem.layX W N K v) (hf:Mem.zn5 W K q v qf):Mem.zn5 W' K q v qf:=by
 rcases hf with ⟨h1,h2⟩|⟨hk,b',n',cap',e1,e2⟩
 ·exact .inl ⟨h1,h2⟩
 ·subst e1;obtain ⟨a,cap,e5,h6⟩:=hl
  injection e5 with e5 e7 e8
  rcases h6 with h6|⟨b'',e9,h10,h11⟩
  ·exact absurd h6 hk
  rw [←e5] at e9;cases e9
  exact .inr ⟨hk,b',n',cap',rfl,by rw [e2,Mem.yd6 (fun j _ hj=>b.block j hj) K b' 0 h11]⟩
theorem ym9 {W W':World} {N:Nat→Prop} {K:Pl.Fx} {q qf:Nat} {v:Value} {L X:List Pl.Nd} (b:Below W.heap.size W W') (hl:Mem.layX W N K v) (hq:Mem.ownM W q L) (hf:Mem.zn5 W' K q v qf) (ho:Mem.ownM W' qf X):Mem.zn5 W K q v qf∧Mem.ownM W qf X:=by
 rcases hf with ⟨h1,rfl⟩|⟨hk,b',n',cap',e1,e2⟩
 ·exact ⟨.inl ⟨h1,rfl⟩,ho.same (b.block qf hq.lt).symm⟩
 ·subst e1;obtain ⟨a,cap,e5,h6⟩:=hl
  injection e5 with e5 e7 e8
  rcases h6 with h6|⟨b'',e9,h10,h11⟩
  ·exact absurd h6 hk
  rw [←e5] at e9;cases e9
  rw [Mem.yd6 (fun j _ hj=>b.block j hj) K b' 0 h11] at e2;refine ⟨.inr ⟨hk,b',n',cap',rfl,e2⟩,ho.same (b.block qf ?_).symm⟩;rw [e2];exact Mem.firstQ_lt K b' 0 hk h11
theorem gn_of {w W W':World} {n:Pl.Nd} {Fp Fl:FuncId} {X5 q:Nat} {a1:Option Addr} {cap1:Nat} {L:List Pl.Nd} {K:Pl.Fx} {qs:Nat} {S:List Pl.Nd} {qf Y:Nat} {lev:Int} (h:Hn w W n Fp Fl X5 q a1 cap1 L K qs S) (hf:Mem.zn5 W K q (.slice a1 K.len cap1) qf) (ho:Mem.ownM W qf (Pl.zd6 L K)) (b:Below W.heap.size W W') (hg:Mem.Blk W' Y #[.map (some qf), .map (some qs), .int .i64 lev] 135) (hY:W.heap.size≤Y):Gn w W' n Fp Fl X5 q a1 cap1 L K qs S qf Y lev:=
 ⟨h.call b,hg,by have :=h.bel.size;have :=h.nest.lt;have :=h.lx;omega,first_call b h.lay hf,ho.call b,first_in h hf⟩
set_option linter.unusedSimpArgs false in
set_option maxRecDepth 100000 in
set_option maxHeartbeats 8000000 in
theorem yn8 (n:Pl.Nd) (Fp Fl:FuncId) (pc:List Pl.Nd→Int) (pO:List Pl.Nd→List Pl.Nd) (lf:List Pl.Nd→List Pl.Nd→Int→List Pl.Nd) (a:Option Addr) (cap:Nat) (Is:List Pl.It) (w:World) (hl:Is.length≤1048576) (hcap:Is.length≤cap) (hv:Mem.zb0 w a Is) (hok:∀x∈Is,x.t.L.length≤1048576∧∀n∈x.t.L,n.path.size≤1048576∧n.data.size≤1048576) (x:Nat→Addr) (hE:WIs.Six w x)
  (hF:∀B W,(callFunc Fp #[.map (some B),n.val]).run Tryz.prog W= .ok (.enter Fp #[.map (some B),n.val]) W)
  (hP:∀S,Pl.zd0 S=true→Pl.za7 n=true→∀B W,Below w.heap.size w W→w.heap.size≤B→W.ownsMap Tryz.prog 9 MapN.elem B 40 (MapN.mapOf S)→Calls Tryz.prog Fp #[.map (some B),n.val] W fun e w'=>Did W w' e B (pc S) (pO S))
  (hFl:∀g W,(callFunc Fl #[g,n.val]).run Tryz.prog W= .ok (.enter Fl #[g,n.val]) W)
  (hLf:∀S L1 qf qs lev N W,Pl.zc9 L1→L1.length≤100→Pl.zd0 S=true→pc S=0→Pl.za7 n=true→N≤900→W.ownsMap Tryz.prog 9 MapN.elem qf N (MapN.mapOf L1)→W.ownsMap Tryz.prog 9 MapN.elem qs 40 (MapN.mapOf S)→Calls Tryz.prog Fl #[.agg #[.map (some qf), .map (some qs), .int .i64 lev],n.val] W fun e w'=>yb5.Done W w' e qf (lf S L1 lev))
  (hlr:∀S L1 lev,Pl.zc9 L1→Pl.zd0 S=true→pc S=0→Pl.za7 n=true→Pl.zc9 (lf S L1 lev))
  (hW:∀S,Pl.zd0 S=true→pc S=0→Pl.za7 n=true→∀p∈Pl.zi9 n.path,∃d,Pl.lk S p=some d):
  Calls Tryz.prog 49 #[.agg (chg n Fp Fl), .slice a Is.length cap] w fun e w'=>EndsN w w' e (Pl.ze8 (Is.map Pl.It.r) n pc lf).1 (Pl.ze8 (Is.map Pl.It.r) n pc lf).2:=by
 have b0:Below w.heap.size w (w.alloc (.cells (chg n Fp Fl) 96)):=bE0;have A0:=Mem.Blk.new w (chg n Fp Fl) 96;have hs0:(w.alloc (.cells (chg n Fp Fl) 96)).heap.size=w.heap.size+1:=by simp
 have hxl:(Is.map Pl.It.r).length=Is.length:=List.length_map ..;have HNE:=hide (fun W (b:Below w.heap.size w W)=>zr8.nest_any a cap Is W hl hcap (Mem.zb2 hv b) hok _ _ _ _ _ _ _ _ (zq4.six4 (hE.call b)));have HSI:=hide (fun W (b:Below w.heap.size w W)=>zq4.sight_any a cap Is W hl hcap (Mem.zb2 hv b) hok x (hE.call b));have HE:=hide (fun W (b:Below w.heap.size w W)=>hE.call b);clear hv hok hE;by_cases hs:n.path.size≤8000∧n.data.size≤8000
 rotate_left
 ·have e1:Pl.ze8 (Is.map Pl.It.r) n pc lf=(2,[]):=by rw [Pl.ze8,if_neg hs]
  rw [e1];have hlo:=hide (fun W=>long_yes n Fp Fl W hs);clear HNE HSI HE hF hP hFl hLf hlr hW e1;go_enter Tryz.func49,Tryz.ntmps49
  go_wp2_with fail
  refine (za hlo _).mono ?_;rintro e w1 ⟨rfl,b1⟩;go_wp2_with fail
  refine (zg 2 _).mono ?_;rintro e wR ⟨rfl,hwR⟩;subst wR;go_wp2_with fail
  exact ⟨rfl,⟨.inr ⟨by decide,rfl,rfl⟩,b0.trans (b1.mono b0.size)⟩⟩
 have hlo:=hide (fun W=>long_no n Fp Fl W hs.1 hs.2);have HN:=hide (fun W=>WNode.zk6 n W (by omega) (by omega))
 have EQ:Hid (Pl.ze8 (Is.map Pl.It.r) n pc lf=if 400<Is.length then (2,[]) else match Pl.zn1 (Is.map Pl.It.r) with
  |none=>(1,[])
  |some (L,K)=>if Pl.za7 n=true then if Pl.zb9 (Is.map Pl.It.r)=0 then if pc (Pl.zb8 (Is.map Pl.It.r))=0 then
      if 40<(lf (Pl.zb8 (Is.map Pl.It.r)) (Pl.zg3 (Pl.zb8 (Is.map Pl.It.r)) (Pl.zd6 L K) (Pl.zi9 n.path)) (K.shape.level:Int)).length then (9,[])
      else (0,(Pl.setF (lf (Pl.zb8 (Is.map Pl.It.r)) (Pl.zg3 (Pl.zb8 (Is.map Pl.It.r)) (Pl.zd6 L K) (Pl.zi9 n.path)) (K.shape.level:Int)) (.cons L K .nil)).flat)
     else (pc (Pl.zb8 (Is.map Pl.It.r)),[]) else (Pl.zb9 (Is.map Pl.It.r),[]) else (1,[])):=by
  unfold Pl.ze8;rw [if_pos hs,hxl];exact rfl
 have HVP:Hid (Pl.zb9 (Is.map Pl.It.r)=0→Pl.zd0 (Pl.zb8 (Is.map Pl.It.r))=true):=fun h=>Pl.zq7 h;have hsl:=Pl.yc (Is.map Pl.It.r)
 have HX:Hid (∀L k,Pl.nest (Pl.rowO (Is.map Pl.It.r))=some (Pl.Fx.shape k)→(Pl.Fx.cons L k .nil).flat=Is.map Pl.It.r→Pl.zn1 (Is.map Pl.It.r)=some (L,k)∧k.sz≤900∧Is.length≤12):=fun L k h1 h2=>by
  have h3:=Pl.zo6 h1;have h4:=congrArg List.length h2;rw [Pl.Fx.zw6,Pl.Fx.sz] at h4;exact ⟨Pl.zz8 h1 h2,by omega,by omega⟩
 have HX0:Hid (Pl.nest (Pl.rowO (Is.map Pl.It.r))=none→Pl.zn1 (Is.map Pl.It.r)=none):=fun h=>Pl.zt1 h;have HFL:=hide (fun L k (h:(Pl.Fx.cons L k .nil).flat=Is.map Pl.It.r)=>h);generalize Pl.ze8 (Is.map Pl.It.r) n pc lf=R at EQ ⊢;generalize Pl.zb9 (Is.map Pl.It.r)=VC at EQ HSI HVP;generalize Pl.zb8 (Is.map Pl.It.r)=S at EQ HSI HVP hsl;generalize Pl.zn1 (Is.map Pl.It.r)=NX at EQ HX HX0;generalize Pl.nest (Pl.rowO (Is.map Pl.It.r))=NN at HNE HX HX0;have HF:=hide hF;have HPP_:=hide hP;have HFl:=hide hFl;have HLf:=hide hLf;have Hlr:=hide hlr;have HW:=hide hW;clear hF hP hFl hLf hlr hW hxl;go_enter Tryz.func49,Tryz.ntmps49
 go_wp2_with fail
 generalize w.alloc (.cells (chg n Fp Fl) 96)=w0 at b0 A0 hs0 ⊢;refine (za hlo _).mono ?_;rintro e w1 ⟨rfl,b1⟩;have bw1:=b0.trans (b1.mono b0.size);have A1:=A0.call b1;have hs1:=b1.size;clear hlo b0 b1 A0;go_wp2_with fail
 refine (zi2 2 _).mono ?_;rintro e wR ⟨rfl,hwR⟩;subst wR;go_wp2_with fail
 refine (za HNE _ bw1).mono ?_;rintro e w2 ⟨hN,b2⟩;have bw2:=bw1.trans (b2.mono bw1.size);have A2:=A1.call b2;clear HNE A1
 rcases hN with ⟨L,K,q,a1,cap1,hNN,rfl,⟨⟨hqw,hap⟩,hqm⟩,⟨hko,hfl⟩,hlay⟩|⟨hNN,r,y,rfl,hwhy⟩
 rotate_left
 ·have bw3:=bw2.alloc bw2.size (.cells #[.map none, .int .i64 0, .slice none 0 0] 83)
  rcases hwhy with ⟨h4,rfl,rfl⟩|⟨h4,rfl,rfl⟩
  ·have eR:R=(2,[]):=by have :=za EQ;rw [if_pos h4] at this;exact this
   subst eR;have hcd:=hide (WIs.code0 x _ (za HE _ bw3));clear EQ HSI HE HX HX0 HFL hNN A2 HN;go_wp2_with fail
   refine (za hcd).mono ?_;rintro e w3 ⟨rfl,hw3⟩;subst w3;go_wp2_with fail
   refine (zu3 2 (by decide) _).mono ?_;rintro e w4 ⟨rfl,hw4⟩;subst w4;go_wp2_with fail
   exact ⟨rfl,⟨.inr ⟨by decide,rfl,rfl⟩,bw3⟩⟩
  ·have eR:R=(1,[]):=by have :=za EQ;rw [if_neg (by omega),za HX0 hNN] at this;exact this
   subst eR;have hcd:=hide (WIs.code1 x _ (za HE _ bw3));clear EQ HSI HE HX HX0 HFL hNN A2 HN;go_wp2_with fail
   refine (za hcd).mono ?_;rintro e w3 ⟨rfl,hw3⟩;subst w3;go_wp2_with fail
   refine (zu3 1 (by decide) _).mono ?_;rintro e w4 ⟨rfl,hw4⟩;subst w4;go_wp2_with fail
   exact ⟨rfl,⟨.inr ⟨by decide,rfl,rfl⟩,bw3⟩⟩
 obtain ⟨hnx,hksz,hi12⟩:=za HX L K hNN hfl;have eR:=za EQ;rw [if_neg (by omega),hnx] at eR;simp only at eR;have ER:=hide eR;have bA:Below w2.heap.size w2 (w2.alloc (.cells #[.map (some q), .int .i64 (K.len:Int), .slice a1 K.len cap1] 83)):=bE0;have hlay0:Mem.layX w2 (fun b=>w.heap.size≤b) K (.slice a1 K.len cap1):=Mem.layX_weak hlay (fun b hb _=>by omega);have bw3:=bw2.trans (bA.mono bw2.size);have C3:=A2.call bA;have N3:=Mem.Blk.new w2 #[.map (some q), .int .i64 (K.len:Int), .slice a1 K.len cap1] 83;have O3:=hide (hqm.call bA);have L3:=hide (Mem.zk4 hlay0 bA);have P3:=hide (Mem.zo3 hlay hap bA);have hX5:w.heap.size<w2.heap.size:=by have :=b2.size;omega
 have hqw2:w.heap.size≤q:=by omega
 obtain ⟨c0,c1,c2,c3,c4⟩:=jc5 C3;have HKO:=hide hko;clear EQ eR HX HX0 HFL hNN hfl hlay hlay0 hap hqm hqw hko A2 bw2 hnx bA;go_wp2_with fail
 generalize w2.alloc (.cells #[.map (some q), .int .i64 (K.len:Int), .slice a1 K.len cap1] 83)=w3 at bw3 C3 N3 O3 L3 P3 c0 c1 c2 c3 c4 ⊢;generalize w2.heap.size=X5 at N3 hX5 ⊢;refine (WCutF.code_nil _).mono ?_;rintro e wR ⟨rfl,hwR⟩;subst wR;go_wp2_with fail
 refine (ya4 _).mono ?_;rintro e wR ⟨rfl,hwR⟩;subst wR;go_wp2_with fail
 refine (za HN _).mono ?_;rintro e w4 ⟨rfl,b4⟩;have bw4:=bw3.trans (b4.mono bw3.size);have C4:=C3.call b4;have N4:=N3.call b4;have O4:=hide ((za O3).call b4);have L4:=hide (Mem.zk4 (za L3) b4);have P4:=hide (Mem.zo3 (za L3) (za P3) b4);clear HN C3 N3 O3 L3 P3 bw3 b4 c0 c1 c2 c3 c4;cases hnb:Pl.za7 n with
 |false=>
  have eR:R=(1,[]):=by have :=za ER;rw [hnb,if_neg (by decide)] at this;exact this
  subst eR;clear ER HSI HE;go_wp2_with fail
  refine (zg 1 _).mono ?_;rintro e wR ⟨rfl,hwR⟩;subst wR;go_wp2_with fail
  exact ⟨rfl,⟨.inr ⟨by decide,rfl,rfl⟩,bw4⟩⟩
 |true=>
 have ER:=hide (by have :=za ER;rw [if_pos hnb] at this;exact this);go_wp2_with fail
 refine (zi2 1 _).mono ?_;rintro e wR ⟨rfl,hwR⟩;subst wR;go_wp2_with fail
 refine (za HSI _ bw4).mono ?_;rintro e w5 ⟨v5,rfl,own5,b5⟩;obtain ⟨sa,sc,rfl⟩:=Mem.za4 own5;have N5n:=hide (Mem.ze9 own5).2;have hsO:(w5.alloc (.cells #[.slice sa S.length sc, .int .i64 VC] 64)).heap.size=w5.heap.size+1:=by simp
 have b6:Below w4.heap.size w4 (w5.alloc (.cells #[.slice sa S.length sc, .int .i64 VC] 64)):=b5.alloc b5.size _;have bw6:=bw4.trans (b6.mono bw4.size);have C6:=C4.call b6;have N6:=N4.call b6;have O6:=hide ((za O4).call b6);have L6:=hide (Mem.zk4 (za L4) b6);have P6:=hide (Mem.zo3 (za L4) (za P4) b6);have T6:=Mem.Blk.new w5 #[.slice sa S.length sc, .int .i64 VC] 64;have D6:=hide (Mem.za0 (za N5n) ((Below.refl _ _).alloc (Nat.le_refl _) (.cells #[.slice sa S.length sc, .int .i64 VC] 64)));have hX7:w.heap.size<w5.heap.size:=by have :=b5.size;have :=C4.lt;omega
 obtain ⟨t0,t1⟩:=jc2 T6;clear own5 b5 b6 C4 N4 O4 L4 P4 bw4 N5n HSI;by_cases hvc:VC=0
 rotate_left
 ·have eR:R=(VC,[]):=by have :=za ER;rw [if_neg hvc] at this;exact this
  subst eR;clear ER HE;go_wp2_with fail
  refine (zu3 VC hvc _).mono ?_;rintro e wR ⟨rfl,hwR⟩;subst wR;go_wp2_with fail
  exact ⟨rfl,⟨.inr ⟨hvc,rfl,rfl⟩,bw6⟩⟩
 have hpl:=za HVP hvc;have htr:=Pl.zj0 hpl;have HRS:=hide (Pl.zc9.zr0 htr)
 have HSO:Hid (∀m∈S,m.path.size≤1048576∧m.data.size≤1048576):=fun m hm=>by
  have h1:=(Pl.zj4 htr).2.1 m hm;have :=Pl.zd1 h1.1;exact ⟨by omega,h1.2⟩
 have ER:=hide (by have :=za ER;rw [if_pos hvc] at this;exact this);subst hvc;have hcc:Pl.chgC S n (pc S)=pc S:=by rw [Pl.chgC,if_pos hs,if_pos ⟨hpl,hnb⟩]
 have HIT:=hide (fun W (b:Below w.heap.size w W) (v:Mem.za2 W sa S)=>inTree_any n Fp Fl sa sc S (pc S) (pO S) W (by omega) v (za HSO) _ _ _ _ _ _ (za HE W b).errs (za HF) (fun h1 h2 B W' b' hB' ho=>za HPP_ S h1 h2 B W' (b.trans (b'.mono b.size)) (Nat.le_trans b.size hB') ho));rw [hcc] at HIT;have HND:=hide (fun W (b:Below w.heap.size w W) (v:Mem.za2 W sa S)=>zc2.zy1 sa sc S W (by omega) v (za HSO) _ _ _ _ _ _ (za HE W b).errs);obtain ⟨c0,c1,c2,c3,c4,c5,c6⟩:=jc7 C6;clear hcc HVP HPP_ HF;go_wp2_with fail
 refine (ya4 _).mono ?_;rintro e wR ⟨rfl,hwR⟩;subst wR;go_wp2_with fail
 generalize w5.alloc (.cells #[.slice sa S.length sc, .int .i64 0] 64)=w6 at bw6 C6 N6 O6 L6 P6 T6 D6 hsO t0 t1 c0 c1 c2 c3 c4 c5 c6 ⊢;generalize w5.heap.size=X7 at T6 hX7 t0 t1 ⊢;refine (za HIT _ bw6 (za D6)).mono ?_;rintro e w7 ⟨h7,b7⟩;have bw7:=bw6.trans (b7.mono bw6.size);have C7:=C6.call b7;have N7:=N6.call b7;have O7:=hide ((za O6).call b7);have L7:=hide (Mem.zk4 (za L6) b7);have P7:=hide (Mem.zo3 (za L6) (za P6) b7);have T7:=T6.call b7;have D7:=hide (Mem.za0 (za D6) b7);have t0:=T7.cell 0;simp only [kGs] at t0;clear C6 N6 O6 L6 P6 T6 D6 bw6 b7 HIT t1 c0 c1 c2 c3 c4 c5 c6
 rcases h7 with ⟨hpc,v7,rfl, -⟩|⟨hpc, -,rfl⟩
 rotate_left
 ·have eR:R=(pc S,[]):=by have :=za ER;rw [if_neg hpc] at this;exact this
  subst eR;go_wp2_with fail
  exact ⟨rfl,⟨.inr ⟨hpc,rfl,rfl⟩,bw7⟩⟩
 have ER:=hide (by have :=za ER;rw [if_pos hpc] at this;exact this);have HWY:=hide (za HW S hpl hpc hnb);go_wp2_with fail
 refine (za HND _ bw7 (za D7)).mono ?_;rintro e w8 ⟨h8,b8⟩
 rcases h8 with ⟨-,qs,rfl,hqs,hmap⟩|⟨hx, -⟩
 rotate_left
 ·exact absurd (htr.symm.trans hx) (by decide)
 have H8:Hn w w8 n Fp Fl X5 q a1 cap1 L K qs S:=by
  refine ⟨bw7.trans (b8.mono bw7.size),C7.call b8,N7.call b8,hX5,(za O7).call b8,Mem.zk4 (za L7) b8,Mem.zo3 (za L7) (za P7) b8,hmap,hqw2,fun j hj=>?_⟩
  rcases List.mem_cons.1 hj with rfl |hj
  ·have :=(za O7).lt;omega
  ·rw [Mem.zs6 (fun j _ hj=>b8.block j hj) (za L7)] at hj;have :=(Mem.mapsL_in (za L7) j hj).2;omega
 have HH:=hide H8;clear H8 C7 N7 O7 L7 P7 T7 D7 bw7 b8 hmap hqs HND HSO htr t0;go_wp2_with fail
 refine yf3 (R:=fun T T' W=>∃ (qf:Nat) (mf:Int) (Y:Nat),T'=((((((((T).setIfInBounds 42 (.agg #[.map (some q), .int .i64 (K.len:Int), .slice a1 K.len cap1])).setIfInBounds 43 (.agg #[.map (some qf), .int .i64 mf])).setIfInBounds 44 (.map (some qf))).setIfInBounds 45 (.map (some qs))).setIfInBounds 46 (.agg #[.map (some q), .int .i64 (K.len:Int), .slice a1 K.len cap1])).setIfInBounds 47 (.int .i64 (K.shape.level:Int))).setIfInBounds 48 (.agg #[.map (some qf), .map (some qs), .int .i64 (K.shape.level:Int)])).setIfInBounds 10 (.pointer (some ⟨Y,0,none⟩))∧Gn w W n Fp Fl X5 q a1 cap1 L K qs S qf Y (K.shape.level:Int)) ?_ ?_
 ·have MK:Hid (∀W',Mem.Blk W' X5 #[.map (some q), .int .i64 (K.len:Int), .slice a1 K.len cap1] 83→(fun W'=>W'.cell? ⟨X5,0,none⟩=some (.map (some q))∧W'.cell? ⟨X5,1,none⟩=some (.int .i64 (K.len:Int))∧W'.cell? ⟨X5,2,none⟩=some (.slice a1 K.len cap1)) W'):=fun W' h=>by
   obtain ⟨e0,e1,e2⟩:=jc3 h;exact ⟨e0,e1,e2⟩
  refine wp_region_held_drew (S:=fun W'=>W'.cell? ⟨X5,0,none⟩=some (.map (some q))∧W'.cell? ⟨X5,1,none⟩=some (.int .i64 (K.len:Int))∧W'.cell? ⟨X5,2,none⟩=some (.slice a1 K.len cap1)) (by kernel_rfl) ?_ (fun hHeld=>?_)
  ·exact za MK _ (za HH).drew.nest
  have HA:=hide (za HH).drew;clear HH;generalize w8.drew=D0 at hHeld HA ⊢;refine TB 0 ?_;refine TB 3 ?_;refine TB 4 ?_;refine wpAnyH_ready (rs:=[1,7]) (by kernel_rfl) (by simp) ?_;refine AllReadyH.cons rfl (fun K_ hK=>?_) (AllReadyH.cons rfl (fun K_ hK=>?_) (AllReadyH.nil))
  ·go_simp
   refine (WFirst.zu6 _ 1000 (Nat.le_refl _) K L q (K.len:Int) _ _ (by omega) ((za HA).call (Below.refl D0.heap.size D0)).own ((za HA).call (Below.refl D0.heap.size D0)).lay).mono ?_;rintro e x1 ⟨⟨qf,mf,rfl,hf,ho⟩,b_x1⟩;obtain ⟨hf,ho⟩:=ym9 (Below.refl D0.heap.size D0) (za HA).lay (za HA).own hf ho;have bc_x1:Below D0.heap.size D0 x1:=(Below.refl D0.heap.size D0).trans (b_x1.mono (Below.refl D0.heap.size D0).size);have HF1:=hide (⟨hf,ho⟩:_∧_);clear hf ho;refine hK.out _ _ ?_ (fun hHeld=>?_)
   ·exact za MK _ ((za HA).call bc_x1).nest
   clear hK K_
   try simp only [Act.put,kBs]
   have hfd:=fun W=>(by kernel_rfl:(Instr.field 80 (.agg #[.map (some qf), .int .i64 mf]) 0).run Tryz.prog W= .ok (.map (some qf)) W);refine TB 2 ?_;refine wpAnyH_ready (rs:=[5,7]) (by kernel_rfl) (by simp) ?_;refine AllReadyH.cons rfl (fun K_ hK=>?_) (AllReadyH.cons rfl (fun K_ hK=>?_) (AllReadyH.nil))
   ·go_simp
    refine (zl4.yi4 _ 1000 (Nat.le_refl _) K.shape (some q) (K.len:Int) _ _ (by rw [Pl.Fx.yb1];omega) (Mem.yf1 ((za HA).call bc_x1).lay)).mono ?_;rintro e x2 ⟨rfl,b_x2⟩;have bc_x2:Below D0.heap.size D0 x2:=bc_x1.trans (b_x2.mono bc_x1.size);refine hK.out _ _ ?_ (fun hHeld=>?_)
    ·exact za MK _ ((za HA).call bc_x2).nest
    clear hK K_
    try simp only [Act.put,kBs]
    refine TB 6 ?_;refine wpAnyH_ready (rs:=[7]) (by kernel_rfl) (by simp) ?_;refine AllReadyH.cons rfl (fun K_ hK=>?_) (AllReadyH.nil);go_simp
    have bA:=(bc_x2).alloc (bc_x2).size (.cells #[.map none, .map none, .int .i64 0] 135);have VA:=Mem.Blk.new x2 #[.map none, .map none, .int .i64 0] 135;have hY:D0.heap.size≤x2.heap.size:=(bc_x2).size;refine hK.out _ _ ?_ (fun hHeld=>?_)
    ·exact za MK _ ((za HA).call bA).nest
    clear hK K_
    try simp only [Act.put,kBs]
    generalize x2.alloc (.cells #[.map none, .map none, .int .i64 0] 135)=x3 at bA VA hHeld ⊢;obtain ⟨Y,hYd⟩:∃Y,x2.heap.size=Y:=⟨_,rfl⟩;have hY2:D0.heap.size≤Y:=by rw [←hYd];exact hY
    rw [hYd] at VA ⊢;clear hYd hY;have hY:=hY2;clear hY2;have V0:=VA;obtain ⟨⟨v0,v1,v2⟩,f0,f1,f2⟩:=jf3 V0;have V3:=((V0.put 0 (.map (some qf))).put 1 (.map (some qs))).put 2 (.int .i64 (K.shape.level:Int));simp only [kB3,kB4,kB5] at V3;have b3:=((bA.setCell (p:=⟨Y,0,none⟩) hY (.map (some qf))).setCell (p:=⟨Y,1,none⟩) hY (.map (some qs))).setCell (p:=⟨Y,2,none⟩) hY (.int .i64 (K.shape.level:Int));have GN:=hide (gn_of (za HA) (za HF1).1 (za HF1).2 b3 V3 hY);have B3:=hide b3;clear V0 V3 b3;refine wpAnyH_ready (rs:=[8]) (by kernel_rfl) (by simp) ?_;refine AllReadyH.cons rfl (fun K_ hK=>?_) (AllReadyH.nil);go_simp
    refine hK.out _ _ ?_ (fun hHeld=>?_)
    ·exact za MK _ ((za HA).call (za B3)).nest
    clear hK K_
    try simp only [Act.put,kBs]
    refine wpAnyH_done (by kernel_rfl) ?_ _;refine ⟨rfl,rfl,qf,mf,Y,?_,za GN⟩;simp only [kB3,kB4,kB5]
   ·go_simp
    have bA:=(bc_x1).alloc (bc_x1).size (.cells #[.map none, .map none, .int .i64 0] 135);have VA:=Mem.Blk.new x1 #[.map none, .map none, .int .i64 0] 135;have hY:D0.heap.size≤x1.heap.size:=(bc_x1).size;refine hK.out _ _ ?_ (fun hHeld=>?_)
    ·exact za MK _ ((za HA).call bA).nest
    clear hK K_
    try simp only [Act.put,kBs]
    generalize x1.alloc (.cells #[.map none, .map none, .int .i64 0] 135)=x2 at bA VA hHeld ⊢;obtain ⟨Y,hYd⟩:∃Y,x1.heap.size=Y:=⟨_,rfl⟩;have hY2:D0.heap.size≤Y:=by rw [←hYd];exact hY
    rw [hYd] at VA ⊢;clear hYd hY;have hY:=hY2;clear hY2;refine wpAnyH_ready (rs:=[5]) (by kernel_rfl) (by simp) ?_;refine AllReadyH.cons rfl (fun K_ hK=>?_) (AllReadyH.nil);go_simp
    refine (zl4.yi4 _ 1000 (Nat.le_refl _) K.shape (some q) (K.len:Int) _ _ (by rw [Pl.Fx.yb1];omega) (Mem.yf1 ((za HA).call bA).lay)).mono ?_;rintro e x3 ⟨rfl,b_x3⟩;have bc_x3:Below D0.heap.size D0 x3:=bA.trans (b_x3.mono bA.size);refine hK.out _ _ ?_ (fun hHeld=>?_)
    ·exact za MK _ ((za HA).call bc_x3).nest
    clear hK K_
    try simp only [Act.put,kBs]
    refine TB 6 ?_;have V0:=(VA.call b_x3);obtain ⟨⟨v0,v1,v2⟩,f0,f1,f2⟩:=jf3 V0;have V3:=((V0.put 0 (.map (some qf))).put 1 (.map (some qs))).put 2 (.int .i64 (K.shape.level:Int));simp only [kB3,kB4,kB5] at V3;have b3:=((bc_x3.setCell (p:=⟨Y,0,none⟩) hY (.map (some qf))).setCell (p:=⟨Y,1,none⟩) hY (.map (some qs))).setCell (p:=⟨Y,2,none⟩) hY (.int .i64 (K.shape.level:Int));have GN:=hide (gn_of (za HA) (za HF1).1 (za HF1).2 b3 V3 hY);have B3:=hide b3;clear V0 V3 b3;refine wpAnyH_ready (rs:=[8]) (by kernel_rfl) (by simp) ?_;refine AllReadyH.cons rfl (fun K_ hK=>?_) (AllReadyH.nil);go_simp
    refine hK.out _ _ ?_ (fun hHeld=>?_)
    ·exact za MK _ ((za HA).call (za B3)).nest
    clear hK K_
    try simp only [Act.put,kBs]
    refine wpAnyH_done (by kernel_rfl) ?_ _;refine ⟨rfl,rfl,qf,mf,Y,?_,za GN⟩;simp only [kB3,kB4,kB5]
  ·go_simp
   have bA:=(Below.refl D0.heap.size D0).alloc (Below.refl D0.heap.size D0).size (.cells #[.map none, .map none, .int .i64 0] 135);have VA:=Mem.Blk.new D0 #[.map none, .map none, .int .i64 0] 135;have hY:D0.heap.size≤D0.heap.size:=(Below.refl D0.heap.size D0).size;refine hK.out _ _ ?_ (fun hHeld=>?_)
   ·exact za MK _ ((za HA).call bA).nest
   clear hK K_
   try simp only [Act.put,kBs]
   generalize D0.alloc (.cells #[.map none, .map none, .int .i64 0] 135)=x1 at bA VA hHeld ⊢;obtain ⟨Y,hYd⟩:∃Y,D0.heap.size=Y:=⟨_,rfl⟩;have hY2:D0.heap.size≤Y:=by rw [←hYd];exact hY
   rw [hYd] at VA ⊢;clear hYd hY;have hY:=hY2;clear hY2;refine wpAnyH_ready (rs:=[1]) (by kernel_rfl) (by simp) ?_;refine AllReadyH.cons rfl (fun K_ hK=>?_) (AllReadyH.nil);go_simp
   refine (WFirst.zu6 _ 1000 (Nat.le_refl _) K L q (K.len:Int) _ _ (by omega) ((za HA).call (bA)).own ((za HA).call (bA)).lay).mono ?_;rintro e x2 ⟨⟨qf,mf,rfl,hf,ho⟩,b_x2⟩;obtain ⟨hf,ho⟩:=ym9 (bA) (za HA).lay (za HA).own hf ho;have bc_x2:Below D0.heap.size D0 x2:=(bA).trans (b_x2.mono (bA).size);have HF1:=hide (⟨hf,ho⟩:_∧_);clear hf ho;refine hK.out _ _ ?_ (fun hHeld=>?_)
   ·exact za MK _ ((za HA).call bc_x2).nest
   clear hK K_
   try simp only [Act.put,kBs]
   have hfd:=fun W=>(by kernel_rfl:(Instr.field 80 (.agg #[.map (some qf), .int .i64 mf]) 0).run Tryz.prog W= .ok (.map (some qf)) W);refine TB 2 ?_;refine wpAnyH_ready (rs:=[5]) (by kernel_rfl) (by simp) ?_;refine AllReadyH.cons rfl (fun K_ hK=>?_) (AllReadyH.nil);go_simp
   refine (zl4.yi4 _ 1000 (Nat.le_refl _) K.shape (some q) (K.len:Int) _ _ (by rw [Pl.Fx.yb1];omega) (Mem.yf1 ((za HA).call bc_x2).lay)).mono ?_;rintro e x3 ⟨rfl,b_x3⟩;have bc_x3:Below D0.heap.size D0 x3:=bc_x2.trans (b_x3.mono bc_x2.size);refine hK.out _ _ ?_ (fun hHeld=>?_)
   ·exact za MK _ ((za HA).call bc_x3).nest
   clear hK K_
   try simp only [Act.put,kBs]
   refine TB 6 ?_;have V0:=((VA.call b_x2).call b_x3);obtain ⟨⟨v0,v1,v2⟩,f0,f1,f2⟩:=jf3 V0;have V3:=((V0.put 0 (.map (some qf))).put 1 (.map (some qs))).put 2 (.int .i64 (K.shape.level:Int));simp only [kB3,kB4,kB5] at V3;have b3:=((bc_x3.setCell (p:=⟨Y,0,none⟩) hY (.map (some qf))).setCell (p:=⟨Y,1,none⟩) hY (.map (some qs))).setCell (p:=⟨Y,2,none⟩) hY (.int .i64 (K.shape.level:Int));have GN:=hide (gn_of (za HA) (za HF1).1 (za HF1).2 b3 V3 hY);have B3:=hide b3;clear V0 V3 b3;refine wpAnyH_ready (rs:=[8]) (by kernel_rfl) (by simp) ?_;refine AllReadyH.cons rfl (fun K_ hK=>?_) (AllReadyH.nil);go_simp
   refine hK.out _ _ ?_ (fun hHeld=>?_)
   ·exact za MK _ ((za HA).call (za B3)).nest
   clear hK K_
   try simp only [Act.put,kBs]
   refine wpAnyH_done (by kernel_rfl) ?_ _;refine ⟨rfl,rfl,qf,mf,Y,?_,za GN⟩;simp only [kB3,kB4,kB5]
 rintro T' w9 ⟨qf,mf,Y,hT,G9⟩;simp only [kB3,kB4,kB5] at hT;subst hT;have hqY:Y≠qf:=by have e:=G9.gr.cell 0;simp only [kGs] at e;exact Mem.ya7 (p:=⟨Y,0,none⟩) G9.leaf e
 have hqC:w.heap.size≠qf:=by have e:=G9.hn.chg.cell 0;simp only [kGs] at e;exact Mem.ya7 (p:=⟨w.heap.size,0,none⟩) G9.leaf e
 have hqX:X5≠qf:=by have e:=G9.hn.nest.cell 0;simp only [kGs] at e;exact Mem.ya7 (p:=⟨X5,0,none⟩) G9.leaf e
 have hft:=Pl.yf7 L K (za HKO).1 (za HKO).2.2.2.1;have hfl40:=(Pl.zj4 hft).2.2;have hri:=Pl.zv4 (za HRS) (Pl.zi9 n.path) (Pl.zd6 L K) (Pl.zc9.zr0 hft) (za HWY);have hwl6:(Pl.zi9 n.path).length≤6:=by rw [Pl.zi9,Pl.yg1];exact (Pl.zg0 _).2
 have HOP:=hide (WOpen.open_any qf qs (K.shape.level:Int) (Pl.zd6 L K) S n.path w9 hs.1 G9.leaf G9.hn.seen G9.ne.1 (Pl.zc9.zr0 hft) (za HRS) hfl40 (za HWY));have EO1:Pl.zg3 S (Pl.zd6 L K) (Pl.ways (Pl.zb (Pl.zb4 n.path)) (Pl.zb (Pl.zb4 n.path)).length)=Pl.zg3 S (Pl.zd6 L K) (Pl.zi9 n.path):=rfl;rw [EO1] at HOP;have HO1:=hide hri.1;have hl1:(Pl.zg3 S (Pl.zd6 L K) (Pl.zi9 n.path)).length≤100:=by have :=hri.2;omega
 generalize Pl.zg3 S (Pl.zd6 L K) (Pl.zi9 n.path)=L1 at HOP HO1 hl1 ER;clear EO1 hri hft hfl40 hwl6 HWY HW HE;have g0:=G9.gr.cell 0;have g1:=G9.gr.cell 1;have g2:=G9.gr.cell 2;have c0:=G9.hn.chg.cell 0;simp only [kGs] at g0 g1 g2 c0;have H9:=hide G9;clear G9;go_wp2_with fail
 refine (za HOP).mono ?_;rintro e w10 ⟨rfl,g10,m10⟩;have G10:=(za H9).gr.grown g10 (fun e=>hqY (Option.some.inj e));have C10:=(za H9).hn.chg.grown g10 (fun e=>hqC (Option.some.inj e));have N10:=(za H9).hn.nest.grown g10 (fun e=>hqX (Option.some.inj e));have S10:w10.ownsMap Tryz.prog 9 MapN.elem qs 40 (MapN.mapOf S):=WOpen.own_grown (za H9).hn.seen g10 (fun e=>(za H9).ne.1 (Option.some.inj e).symm);have HLE:=hide (za HLf S L1 qf qs (K.shape.level:Int) 46 w10 (za HO1) hl1 hpl hpc hnb (by omega) m10 S10);have hRO:=hide (za Hlr S L1 (K.shape.level:Int) (za HO1) hpl hpc hnb);generalize lf S L1 (K.shape.level:Int)=O at HLE hRO ER
 have hFl2:∀g W,(callFunc Fl #[g, .agg #[.string n.path, .int .i64 n.kind, .string n.data, .int .i64 n.time, .int .i64 n.mark]]).run Tryz.prog W= .ok (.enter Fl #[g, .agg #[.string n.path, .int .i64 n.kind, .string n.data, .int .i64 n.time, .int .i64 n.mark]]) W:=za HFl;obtain ⟨g0,g1,g2⟩:=jc3 G10;have c0:=C10.cell 0;have c1:=C10.cell 1;have c2:=C10.cell 2;have c3:=C10.cell 3;have c4:=C10.cell 4;have c6:=C10.cell 6;simp only [kGs] at c0 c1 c2 c3 c4 c6;clear HOP m10 S10 HLf Hlr HO1 hl1 HFl HRS;go_wp2_with fail
 refine (za HLE).mono ?_;rintro e w11 ⟨rfl,g11,N11,hN11,m11⟩;have gw:w9.grownBy w11 (some qf):=WOpen.ya1 g10 g11 (fun k e=>by cases e;exact .inr rfl);have G11:=G10.grown g11 (fun e=>hqY (Option.some.inj e));have X11:=N10.grown g11 (fun e=>hqX (Option.some.inj e));have bw11:Below w.heap.size w w11:=(za H9).hn.bel.grown gw (za H9).hn.bel.size (fun r e=>by cases e;exact (za H9).ne.2);have g0:=G11.cell 0;obtain ⟨n0,n1,n2⟩:=jc3 X11;simp only [kGs] at g0;have hsz:Maps.size (MapN.mapOf O)=O.length:=MapN.zv8 (za hRO).apart;have HM11:=hide m11;have HGW:=hide gw;have HB11:=hide bw11;clear HLE m11 G10 C10 N10 g10 g11 G11 X11 g1 g2 c0 c1 c2 c3 c4 c6 hFl2 gw bw11;by_cases h40:40<O.length
 ·have eR:R=(9,[]):=by have :=za ER;rw [if_pos h40] at this;exact this
  subst eR;have u1:(40:Int)<(O.length:Int):=by omega
  have u2:decide ((40:Int)<(O.length:Int))=true:=decide_eq_true u1;go_wp2_with (first |(at_len;refine wpList_len_own _ rfl _ 78 rfl 9 47 Tryz.underlying78 _ qf N11 _ rfl (za HM11) ?_)|fail)
  refine (zg 9 _).mono ?_;rintro e wR ⟨rfl,hwR⟩;subst wR;go_wp2_with fail
  exact ⟨rfl,⟨.inr ⟨by decide,rfl,rfl⟩,za HB11⟩⟩
 ·have eR:R=(0,(Pl.setF O (.cons L K .nil)).flat):=by have :=za ER;rw [if_neg h40] at this;exact this
  subst eR;have u1:¬ (40:Int)<(O.length:Int):=by omega
  have u2:decide ((40:Int)<(O.length:Int))=false:=decide_eq_false u1;obtain ⟨L',K',e1,h2,h3,h4⟩:=Mem.nest_put (za H9).fst (za H9).hn.lay (za H9).hn.own (za H9).hn.ap (za HGW) (Mem.tight (za HM11) (by rw [hsz];omega));have hokR:=Pl.setF_okR (za hRO) (.cons L K .nil) (Pl.Fx.okR_of (za HKO));have hszF:=Pl.setF_sz O (.cons L K .nil);rw [e1] at hokR hszF;simp only [Pl.Fx.sz] at hszF;have HIT:=hide (yg6.items_ofR 1000 (Nat.le_refl _) _ K' L' (some q) (K.len:Int) (.slice a1 K.len cap1) w11 (by omega) hokR.1 hokR.2.2.2.1 (.inl ⟨q,rfl,h2⟩) h3);have hfe:((K.len:Int),L')::K'.flat=(Pl.setF O (.cons L K .nil)).flat:=by rw [e1,Pl.Fx.flat,Pl.Fx.flat,List.append_nil,h4]
  have HFE:=hide hfe;clear hfe;clear e1 h2 h3 h4 hokR hszF HGW ER;go_wp2_with (first |(at_len;refine wpList_len_own _ rfl _ 78 rfl 9 47 Tryz.underlying78 _ qf N11 _ rfl (za HM11) ?_)|fail)
  refine (zi2 9 _).mono ?_;rintro e wR ⟨rfl,hwR⟩;subst wR;go_wp2_with fail
  refine (za HIT).mono ?_;rintro e w12 ⟨v,Js,rfl,hio,hr,b12⟩;have HIO:=hide (⟨hio,hr,b12⟩:_∧_∧_);clear HIT hio hr b12;go_wp2
  go_ret
  exact ⟨.inl ⟨rfl,v,Js,rfl,(za HIO).1.mono (za HB11).size,(za HIO).2.1.trans (za HFE)⟩,(za HB11).trans ((za HIO).2.2.mono (za HB11).size)⟩
end zp2
end Go.Proofs.YthdhhcgopfgcbaaGreatDoor

