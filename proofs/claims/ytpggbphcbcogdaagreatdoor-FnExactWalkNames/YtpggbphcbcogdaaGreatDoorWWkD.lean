import Derived.Test.YtpggbphcbcogdaaGreatDoorG31
namespace Go.Proofs.YtpggbphcbcogdaaGreatDoor
open Go.RowKit Go.Maps
namespace WWk
open zf5
structure Sys (N lo hi x g n cap:Nat) (vs:Nat→Value) (hv:List Bool) (p:ByteArray) (f:Nat→Option Pl.Nd) (S:Nat→List Bool→World→Prop):Prop where
 hiN:hi≤N
 xN:x<N
 gN:g<N
 size:∀k hh W,S k hh W→N≤W.heap.size
 call:∀k hh W W',S k hh W→Below W.heap.size W W'→S k hh W'
 grown:∀k hh W W' X,S k hh W→W.grownBy W' (some X)→N≤X→S k hh W'
 skip:∀k hh W,S k hh W→S (k+1) hh W
 box:∀k hh W,S k hh W→W.cell? ⟨x,0,none⟩=some (.slice (some ⟨g,0,none⟩) n cap)
 row:∀k hh W,S k hh W→∀i,i<n→W.cell? ⟨g,i,none⟩=some (vs i)
 ask:∀k (s:Pl.Sg) W,S k s.have' W→k<n→hv[k]? =some true→Ask W (vs k) p (f k) lo hi (fun W'=>S (k+1) s.have' W'∧∀m,S (k+1) (Pl.zc2 s k m).have' W')
 mark:∀k m,f k=some m→0≤m.mark∧m.mark≤8
structure At (S:Nat→List Bool→World→Prop) (lo hi:Nat) (w wr:World) (a0 a1 a2 a3:Bool) (ns:List (Option Pl.Nd)) (k:Nat) (s:Pl.Sg):Prop where
 bel:Mem.Band lo hi w wr
 box:Mem.Blk wr w.heap.size #[.bool a0, .bool a1, .bool a2, .bool a3] 137
 res:Mem.Blk wr (w.heap.size+1) Pl.Sg.zero.cs.toArray 139
 seen:Mem.Blk wr (w.heap.size+1+1) s.cs.toArray 139
 len:s.have'.length=4
 mark:0≤s.node.mark∧s.node.mark≤8
 go:Pl.goD k s (ns.drop k)=Pl.goD 0 Pl.Sg.zero ns
 sv:S k s.have' wr
structure EndAt (S:Nat→List Bool→World→Prop) (lo hi:Nat) (w wr:World) (s:Pl.Sg):Prop where
 bel:Mem.Band lo hi w wr
 res:Mem.Blk wr (w.heap.size+1) Pl.Sg.zero.cs.toArray 139
 seen:Mem.Blk wr (w.heap.size+1+1) s.cs.toArray 139
 mark:0≤s.node.mark∧s.node.mark≤8
 sv:∃k,S k s.have' wr
theorem At.band {S:Nat→List Bool→World→Prop} {lo hi:Nat} {w wr w1:World} {a0 a1 a2 a3:Bool} {ns:List (Option Pl.Nd)} {k:Nat} {s:Pl.Sg} (h:At S lo hi w wr a0 a1 a2 a3 ns k s) (hN:hi≤w.heap.size) (b:Mem.Band lo hi wr w1):
  Mem.Band lo hi w w1∧Mem.Blk w1 w.heap.size #[.bool a0, .bool a1, .bool a2, .bool a3] 137∧Mem.Blk w1 (w.heap.size+1) Pl.Sg.zero.cs.toArray 139∧Mem.Blk w1 (w.heap.size+1+1) s.cs.toArray 139:=
 ⟨h.bel.trans b,b.blk h.box (.inr hN),b.blk h.res (.inr (by omega)),b.blk h.seen (.inr (by omega))⟩
set_option linter.unusedSimpArgs false in
set_option maxRecDepth 100000 in
set_option maxHeartbeats 4000000 in
theorem decW_any (p:ByteArray) (a0 a1 a2 a3:Bool) (lo hi x g n cap:Nat) (vs:Nat→Value) (f:Nat→Option Pl.Nd) (S:Nat→List Bool→World→Prop) (ns:List (Option Pl.Nd)) (w:World) (h4:n≤4) (hY:Sys w.heap.size lo hi x g n cap vs [a0,a1,a2,a3] p f S) (hS0:S 0 Pl.Sg.zero.have' w) (hlen:ns.length=n) (hns:∀i a,i<n→[a0,a1,a2,a3][i]? =some a→ns[i]? =some (if a then f i else none)):
  Calls Tryz.prog 91 #[.string p, .agg #[.bool a0, .bool a1, .bool a2, .bool a3], .pointer (some ⟨x,0,none⟩)] w fun e w'=>e= .returned (.agg (Pl.decS ns).cs.toArray)∧Mem.Band lo hi w w'∧∃k s,Pl.decS ns=Pl.upS s∧S k s.have' w':=by
 have HY:=hide hY;have HNG:=hide hns;have HNL:=hide hlen;have ED:Hid (Pl.decS ns=Pl.upS (Pl.goD 0 Pl.Sg.zero ns)):=rfl;generalize Pl.decS ns=R at ED ⊢;have B0:∀o1 o2 o3,Below w.heap.size w (((w.alloc o1).alloc o2).alloc o3):=fun o1 o2 o3=>((bE0).alloc (by simp) _).alloc (by simp;omega) _;have q0:=hY.box 0 _ _ (hY.call _ _ _ _ hS0 (B0 (.cells #[.bool a0, .bool a1, .bool a2, .bool a3] 137) (.cells Pl.Sg.zero.cs.toArray 139) (.cells Pl.Sg.zero.cs.toArray 139)));have c0:=hY.call _ _ _ _ hS0 (B0 (.cells #[.bool a0, .bool a1, .bool a2, .bool a3] 137) (.cells Pl.Sg.zero.cs.toArray 139) (.cells Pl.Sg.zero.cs.toArray 139));have b0:=B0 (.cells #[.bool a0, .bool a1, .bool a2, .bool a3] 137) (.cells Pl.Sg.zero.cs.toArray 139) (.cells Pl.Sg.zero.cs.toArray 139)
 clear hY hns hlen B0
 have A0:Hid (At S lo hi w (((w.alloc (.cells #[.bool a0, .bool a1, .bool a2, .bool a3] 137)).alloc (.cells Pl.Sg.zero.cs.toArray 139)).alloc (.cells Pl.Sg.zero.cs.toArray 139)) a0 a1 a2 a3 ns 0 Pl.Sg.zero):=by
  refine ⟨Mem.Band.of_below b0,((Mem.Blk.new _ _ _).alloc _).alloc _,Mem.Blk.alloc (Mem.zi9 _ _ _) _,?_,rfl,by decide,rfl,c0⟩;have h:=Mem.zi9 (w.alloc (.cells #[.bool a0, .bool a1, .bool a2, .bool a3] 137)) (.cells Pl.Sg.zero.cs.toArray 139) (.cells Pl.Sg.zero.cs.toArray 139);rw [show (w.alloc (.cells #[.bool a0, .bool a1, .bool a2, .bool a3] 137)).heap.size=w.heap.size+1 by simp] at h;exact h
 have hR:w.heap.size≤w.heap.size+1:=by omega
 clear b0 c0;simp only [Pl.Sg.zero,Pl.za3,Pl.Sg.cs,List.map_cons,List.map_nil,List.cons_append,List.nil_append] at A0 q0;go_enter Tryz.func91,Tryz.ntmps91
 go_wp2
 go_loopw [12] (fun i wr=>∃k:Nat,k≤n∧i= .int .i64 (k:Int)∧Hid (∃s,At S lo hi w wr a0 a1 a2 a3 ns k s)) (fun i _=>n - (intOf i).toNat)
 case atStart=>exact ⟨0,Nat.zero_le _,rfl,⟨_,za A0⟩⟩
 case round=>
  obtain ⟨k,hk,rfl,HA⟩:=hrel;obtain ⟨s,A⟩:=za HA;clear HA A0;obtain ⟨tt,⟨sp,sk,sd,st,sm⟩,sh⟩:=s
  obtain ⟨e0,e1,e2,e3,rfl⟩:∃h0 h1 h2 h3,sh=[h0,h1,h2,h3]:=by
   match sh,A.len with
   | [a,b,c,d],_=>exact ⟨a,b,c,d,rfl⟩
  by_cases hlt:k<n
  ·obtain ⟨x1,hx⟩:∃x1,[a0,a1,a2,a3][k]? =some x1:=⟨_,List.getElem?_eq_getElem (by simp;omega)⟩;have hnk:=za HNG k x1 hlt hx;have y1:(k:Int)<(n:Int):=by omega
   have hix:0≤(k:Int)∧(k:Int)<4:=by omega
   have hix2:0≤(k:Int)∧(k:Int)<(n:Int):=by omega
   have x0:wr.cell? ⟨w.heap.size,k,none⟩=some (.bool x1):=by
    rw [A.box.cell k,List.getElem?_toArray];obtain rfl |rfl |rfl |rfl:k=0∨k=1∨k=2∨k=3:=by omega
    all_goals (simp at hx;subst hx;rfl)
   cases x1
   ·have hgs:Pl.goD k ⟨tt,⟨sp,sk,sd,st,sm⟩,[e0,e1,e2,e3]⟩ (ns.drop k)=Pl.goD (k+1) ⟨tt,⟨sp,sk,sd,st,sm⟩,[e0,e1,e2,e3]⟩ (ns.drop (k+1)):=Pl.go_step (x:=none) hnk k _;have A2:Hid (∃s,At S lo hi w wr a0 a1 a2 a3 ns (k+1) s):=⟨_,A.bel,A.box,A.res,A.seen,A.len,A.mark,by rw [←A.go,hgs],(za HY).skip _ _ _ A.sv⟩;have q1:=(za HY).box _ _ _ A.sv;clear hnk hgs A hx;go_wp2
    go_roundw
    case rel=>exact ⟨k+1,by omega,by go_num,A2⟩
    case measure=>simp [intOf];omega
   ·have q1:=(za HY).box _ _ _ A.sv;obtain ⟨T,xv,F,r,hvk,hm,hcf,hat⟩:=(za HY).ask k ⟨tt,⟨sp,sk,sd,st,sm⟩,[e0,e1,e2,e3]⟩ _ A.sv hlt hx;have o0:=(za HY).row _ _ _ A.sv k hlt;rw [hvk] at o0;simp only [if_true] at hnk;cases hf:f k with
    |none=>
     rw [hf] at hat;replace hat:=hide hat;rw [hf] at hnk;have hgs:Pl.goD k ⟨tt,⟨sp,sk,sd,st,sm⟩,[e0,e1,e2,e3]⟩ (ns.drop k)=Pl.goD (k+1) ⟨tt,⟨sp,sk,sd,st,sm⟩,[e0,e1,e2,e3]⟩ (ns.drop (k+1)):=Pl.go_step hnk k _;simp only [Option.getD_none,Option.isSome_none,Pl.za3,Pl.Nd.val] at hat;have KA:=hide A;have EG:=hide hgs;clear hnk hgs A hx hvk hf;go_wp2_with fail
     refine (za hat).mono ?_;rintro e w1 ⟨rfl,b2,S2⟩
     have A2:Hid (∃s,At S lo hi w (w1.alloc (.cells #[.string ⟨#[]⟩, .int .i64 0, .string ⟨#[]⟩, .int .i64 0, .int .i64 0] 42)) a0 a1 a2 a3 ns (k+1) s):=by
      obtain ⟨g1,g2,g3,g4⟩:=(za KA).band (za HY).hiN b2;exact ⟨_,g1.alloc _,g2.alloc _,g3.alloc _,g4.alloc _,(za KA).len,(za KA).mark,by rw [←(za KA).go,za EG],(za HY).call _ _ _ _ S2.1 (bE0)⟩
     clear KA EG b2 hat S2;go_wp2
     go_roundw
     case rel=>exact ⟨k+1,by omega,by go_num,A2⟩
     case measure=>simp [intOf];omega
    |some m=>
     rw [hf] at hat;replace hat:=hide (hat.mono fun e w' h=>(⟨h.1,h.2.1,h.2.2.2 m⟩:_∧_∧_));have hmb:=(za HY).mark k m hf;rw [hf] at hnk;have hgs:Pl.goD k ⟨tt,⟨sp,sk,sd,st,sm⟩,[e0,e1,e2,e3]⟩ (ns.drop k)=if Pl.ze6 m then Pl.zc2 ⟨tt,⟨sp,sk,sd,st,sm⟩,[e0,e1,e2,e3]⟩ k m else Pl.goD (k+1) (Pl.zc2 ⟨tt,⟨sp,sk,sd,st,sm⟩,[e0,e1,e2,e3]⟩ k m) (ns.drop (k+1)):=Pl.go_step hnk k _;have htk:=hide (fun W (hbk:Mem.Blk W (w.heap.size+1+1) (Pl.Sg.cs ⟨tt,⟨sp,sk,sd,st,sm⟩,[e0,e1,e2,e3]⟩).toArray 139)=>take_any (w.heap.size+1+1) k ⟨tt,⟨sp,sk,sd,st,sm⟩,[e0,e1,e2,e3]⟩ m W (by omega) rfl hbk);have TL:=hide (Pl.take_len ⟨tt,⟨sp,sk,sd,st,sm⟩,[e0,e1,e2,e3]⟩ k m);have TM:=hide (Pl.take_mark (k:=k) A.mark hmb);have KA:=hide A;have EG:=hide hgs;clear hnk hgs A hx hvk hf hmb;generalize Pl.zc2 ⟨tt,⟨sp,sk,sd,st,sm⟩,[e0,e1,e2,e3]⟩ k m=s2 at htk TL TM EG hat;cases hsb:Pl.ze6 m
     ·rw [hsb] at htk EG;obtain ⟨mp,mk,md,mt,mm⟩:=m;simp only [Option.getD_some,Option.isSome_some,Pl.Nd.val] at hat htk;go_wp2_with fail
      refine (za hat).mono ?_;rintro e w1 ⟨rfl,b2,S2⟩;have KGO:=hide (za KA).go;obtain ⟨g1,g2,g3,g4⟩:=(za KA).band (za HY).hiN b2;have A3:=hide (⟨g1.alloc (.cells #[.string mp, .int .i64 mk, .string md, .int .i64 mt, .int .i64 mm] 42),g2.alloc (.cells #[.string mp, .int .i64 mk, .string md, .int .i64 mt, .int .i64 mm] 42),g3.alloc (.cells #[.string mp, .int .i64 mk, .string md, .int .i64 mt, .int .i64 mm] 42),g4.alloc (.cells #[.string mp, .int .i64 mk, .string md, .int .i64 mt, .int .i64 mm] 42),(za HY).call _ _ _ _ S2 ((Below.refl _ _).alloc (Nat.le_refl _) (.cells #[.string mp, .int .i64 mk, .string md, .int .i64 mt, .int .i64 mm] 42))⟩:_∧_∧_∧_∧_);clear KA b2 hat S2 g1 g2 g3 g4;go_wp2_with fail
      refine (za htk _ (za A3).2.2.2.1).mono ?_;rintro e w2 ⟨rfl,hs2,g2⟩;have A4:Hid (∃s,At S lo hi w w2 a0 a1 a2 a3 ns (k+1) s):=⟨s2,(za A3).1.grown g2 (by omega),(za A3).2.1.grown g2 (fun e=>by have :=Option.some.inj e;omega),(za A3).2.2.1.grown g2 (fun e=>by have :=Option.some.inj e;omega),hs2,za TL,za TM,by rw [←za KGO,za EG];rfl,(za HY).grown _ _ _ _ _ (za A3).2.2.2.2 g2 (by omega)⟩;clear A3 hs2 g2 htk EG TL TM KGO;go_wp2
      go_roundw
      case rel=>exact ⟨k+1,by omega,by go_num,A4⟩
      case measure=>simp [intOf];omega
     ·rw [hsb] at htk EG;obtain ⟨mp,mk,md,mt,mm⟩:=m;simp only [Option.getD_some,Option.isSome_some,Pl.Nd.val] at hat htk;go_wp2_with fail
      refine (za hat).mono ?_;rintro e w1 ⟨rfl,b2,S2⟩;have KGO:=hide (za KA).go;obtain ⟨g1,g2,g3,g4⟩:=(za KA).band (za HY).hiN b2;have A3:=hide (⟨g1.alloc (.cells #[.string mp, .int .i64 mk, .string md, .int .i64 mt, .int .i64 mm] 42),g2.alloc (.cells #[.string mp, .int .i64 mk, .string md, .int .i64 mt, .int .i64 mm] 42),g3.alloc (.cells #[.string mp, .int .i64 mk, .string md, .int .i64 mt, .int .i64 mm] 42),g4.alloc (.cells #[.string mp, .int .i64 mk, .string md, .int .i64 mt, .int .i64 mm] 42),(za HY).call _ _ _ _ S2 ((Below.refl _ _).alloc (Nat.le_refl _) (.cells #[.string mp, .int .i64 mk, .string md, .int .i64 mt, .int .i64 mm] 42))⟩:_∧_∧_∧_∧_);clear KA b2 hat S2 g1 g2 g3 g4;go_wp2_with fail
      refine (za htk _ (za A3).2.2.2.1).mono ?_;rintro e w2 ⟨rfl,hs2,g2⟩;have GO:=KGO;have A4:Hid (Mem.Blk w2 (w.heap.size+1) Pl.Sg.zero.cs.toArray 139∧Mem.Band lo hi w w2∧S (k+1) s2.have' w2):=⟨(za A3).2.2.1.grown g2 (fun e=>by have :=Option.some.inj e;omega),(za A3).1.grown g2 (by omega),(za HY).grown _ _ _ _ _ (za A3).2.2.2.2 g2 (by omega)⟩;clear A3 g2 htk q1 o0 x0;obtain ⟨tt2,⟨sp2,sk2,sd2,st2,sm2⟩,sh2⟩:=s2
      obtain ⟨e4,e5,e6,e7,rfl⟩:∃h0 h1 h2 h3,sh2=[h0,h1,h2,h3]:=by
       match sh2,za TL with
       | [a,b,c,d],_=>exact ⟨a,b,c,d,rfl⟩
      have KA:Hid (EndAt S lo hi w w2 ⟨tt2,⟨sp2,sk2,sd2,st2,sm2⟩,[e4,e5,e6,e7]⟩):=⟨(za A4).2.1,(za A4).1,hs2,za TM,_,(za A4).2.2⟩;have EQ:Hid (R=Pl.upS ⟨tt2,⟨sp2,sk2,sd2,st2,sm2⟩,[e4,e5,e6,e7]⟩):=by rw [za ED,←za GO,za EG];exact rfl
      clear hs2 A4 TL TM EG GO KGO;have c0:=(za KA).seen.cell 0;have c1:=(za KA).seen.cell 1;have c2:=(za KA).seen.cell 2;have c3:=(za KA).seen.cell 3;have c4:=(za KA).seen.cell 4;have c5:=(za KA).seen.cell 5;have c6:=(za KA).seen.cell 6;have c7:=(za KA).seen.cell 7;have c8:=(za KA).seen.cell 8;have c9:=(za KA).seen.cell 9;simp only [Pl.Sg.cs,List.map_cons,List.map_nil,List.cons_append,List.nil_append,kGs] at c0 c1 c2 c3 c4 c5 c6 c7 c8 c9;have hup:=hide (fun W=>up_any ⟨tt2,⟨sp2,sk2,sd2,st2,sm2⟩,[e4,e5,e6,e7]⟩ W rfl (by have :=(za KA).mark;omega));have HU4:=hide (Pl.up_len (s:=⟨tt2,⟨sp2,sk2,sd2,st2,sm2⟩,[e4,e5,e6,e7]⟩) rfl);have ER:Hid (R=Pl.upS ⟨tt2,⟨sp2,sk2,sd2,st2,sm2⟩,[e4,e5,e6,e7]⟩):=za EQ;generalize Pl.upS ⟨tt2,⟨sp2,sk2,sd2,st2,sm2⟩,[e4,e5,e6,e7]⟩=U at hup HU4 ER;obtain ⟨ut,⟨up,uk,ud,un,um⟩,uh⟩:=U
      obtain ⟨g0,g1,g2,g3,rfl⟩:∃h0 h1 h2 h3,uh=[h0,h1,h2,h3]:=by
       match uh,za HU4 with
       | [a,b,c,d],_=>exact ⟨a,b,c,d,rfl⟩
      rw [show (Pl.Sg.cs ⟨tt2,⟨sp2,sk2,sd2,st2,sm2⟩,[e4,e5,e6,e7]⟩).toArray=#[.bool tt2, .string sp2, .int .i64 sk2, .string sd2, .int .i64 st2, .int .i64 sm2, .bool e4, .bool e5, .bool e6, .bool e7] from rfl,show (Pl.Sg.cs ⟨ut,⟨up,uk,ud,un,um⟩,[g0,g1,g2,g3]⟩).toArray=#[.bool ut, .string up, .int .i64 uk, .string ud, .int .i64 un, .int .i64 um, .bool g0, .bool g1, .bool g2, .bool g3] from rfl] at hup;go_wp2_with fail
      refine (za hup _).mono ?_;rintro e wU ⟨rfl,bU⟩;have RU:=(za KA).res.call bU;have GU:=hide (za1 (za1 (za1 (za1 (za1 (za1 (za1 (za1 (za1 (za1 (Mem.za4 bU (some (w.heap.size+1))) 0 (.bool ut)) 1 (.string up)) 2 (.int .i64 uk)) 3 (.string ud)) 4 (.int .i64 un)) 5 (.int .i64 um)) 6 (.bool g0)) 7 (.bool g1)) 8 (.bool g2)) 9 (.bool g3));clear c0 c1 c2 c3 c4 c5 c6 c7 c8 c9 hup bU;have c0:=RU.cell 0;have c1:=RU.cell 1;have c2:=RU.cell 2;have c3:=RU.cell 3;have c4:=RU.cell 4;have c5:=RU.cell 5;have c6:=RU.cell 6;have c7:=RU.cell 7;have c8:=RU.cell 8;have c9:=RU.cell 9;have f0:=RU.fr 0;have f1:=RU.fr 1;have f2:=RU.fr 2;have f3:=RU.fr 3;have f4:=RU.fr 4;have f5:=RU.fr 5;have f6:=RU.fr 6;have f7:=RU.fr 7;have f8:=RU.fr 8;have f9:=RU.fr 9;simp only [Pl.Sg.zero,Pl.za3,Pl.Sg.cs,List.map_cons,List.map_nil,List.cons_append,List.nil_append,kGs] at c0 c1 c2 c3 c4 c5 c6 c7 c8 c9;clear RU;go_wp2
      refine bodyPost_ret (v:= .agg #[.bool ut, .string up, .int .i64 uk, .string ud, .int .i64 un, .int .i64 um, .bool g0, .bool g1, .bool g2, .bool g3]) (by simp [results,Tryz.results91,go_sem,c0,c1,c2,c3,c4,c5,c6,c7,c8,c9]) rfl ⟨by rw [za ER];rfl,?_⟩;exact ⟨(za KA).bel.grown (za GU) (by omega),_,_,za EQ,(za HY).grown _ _ _ _ _ (za KA).sv.choose_spec (za GU) (by omega)⟩
  ·obtain rfl:n=k:=by omega
   have y1:¬ ((n:Int)<(n:Int)):=by omega
   have q1:=(za HY).box _ _ _ A.sv;have KA:=hide A;clear A;have c0:=(za KA).seen.cell 0;have c1:=(za KA).seen.cell 1;have c2:=(za KA).seen.cell 2;have c3:=(za KA).seen.cell 3;have c4:=(za KA).seen.cell 4;have c5:=(za KA).seen.cell 5;have c6:=(za KA).seen.cell 6;have c7:=(za KA).seen.cell 7;have c8:=(za KA).seen.cell 8;have c9:=(za KA).seen.cell 9;simp only [Pl.Sg.cs,List.map_cons,List.map_nil,List.cons_append,List.nil_append,kGs] at c0 c1 c2 c3 c4 c5 c6 c7 c8 c9;have hup:=hide (fun W=>up_any ⟨tt,⟨sp,sk,sd,st,sm⟩,[e0,e1,e2,e3]⟩ W rfl (by have :=(za KA).mark;omega));have HU4:=hide (Pl.up_len (s:=⟨tt,⟨sp,sk,sd,st,sm⟩,[e0,e1,e2,e3]⟩) rfl);have EQ:Hid (R=Pl.upS ⟨tt,⟨sp,sk,sd,st,sm⟩,[e0,e1,e2,e3]⟩):=by rw [za ED,←(za KA).go,Pl.go_end (by rw [za HNL];exact Nat.le_refl _)];exact rfl
   have ER:Hid (R=Pl.upS ⟨tt,⟨sp,sk,sd,st,sm⟩,[e0,e1,e2,e3]⟩):=EQ;generalize Pl.upS ⟨tt,⟨sp,sk,sd,st,sm⟩,[e0,e1,e2,e3]⟩=U at hup HU4 ER;obtain ⟨ut,⟨up,uk,ud,un,um⟩,uh⟩:=U
   obtain ⟨g0,g1,g2,g3,rfl⟩:∃h0 h1 h2 h3,uh=[h0,h1,h2,h3]:=by
    match uh,za HU4 with
    | [a,b,c,d],_=>exact ⟨a,b,c,d,rfl⟩
   rw [show (Pl.Sg.cs ⟨tt,⟨sp,sk,sd,st,sm⟩,[e0,e1,e2,e3]⟩).toArray=#[.bool tt, .string sp, .int .i64 sk, .string sd, .int .i64 st, .int .i64 sm, .bool e0, .bool e1, .bool e2, .bool e3] from rfl,show (Pl.Sg.cs ⟨ut,⟨up,uk,ud,un,um⟩,[g0,g1,g2,g3]⟩).toArray=#[.bool ut, .string up, .int .i64 uk, .string ud, .int .i64 un, .int .i64 um, .bool g0, .bool g1, .bool g2, .bool g3] from rfl] at hup;go_wp2_with fail
   refine (za hup _).mono ?_;rintro e wU ⟨rfl,bU⟩;have RU:=(za KA).res.call bU;have GU:=hide (za1 (za1 (za1 (za1 (za1 (za1 (za1 (za1 (za1 (za1 (Mem.za4 bU (some (w.heap.size+1))) 0 (.bool ut)) 1 (.string up)) 2 (.int .i64 uk)) 3 (.string ud)) 4 (.int .i64 un)) 5 (.int .i64 um)) 6 (.bool g0)) 7 (.bool g1)) 8 (.bool g2)) 9 (.bool g3));clear c0 c1 c2 c3 c4 c5 c6 c7 c8 c9 hup bU q1;have c0:=RU.cell 0;have c1:=RU.cell 1;have c2:=RU.cell 2;have c3:=RU.cell 3;have c4:=RU.cell 4;have c5:=RU.cell 5;have c6:=RU.cell 6;have c7:=RU.cell 7;have c8:=RU.cell 8;have c9:=RU.cell 9;have f0:=RU.fr 0;have f1:=RU.fr 1;have f2:=RU.fr 2;have f3:=RU.fr 3;have f4:=RU.fr 4;have f5:=RU.fr 5;have f6:=RU.fr 6;have f7:=RU.fr 7;have f8:=RU.fr 8;have f9:=RU.fr 9;simp only [Pl.Sg.zero,Pl.za3,Pl.Sg.cs,List.map_cons,List.map_nil,List.cons_append,List.nil_append,kGs] at c0 c1 c2 c3 c4 c5 c6 c7 c8 c9;clear RU;go_wp2
   refine bodyPost_ret (v:= .agg #[.bool ut, .string up, .int .i64 uk, .string ud, .int .i64 un, .int .i64 um, .bool g0, .bool g1, .bool g2, .bool g3]) (by simp [results,Tryz.results91,go_sem,c0,c1,c2,c3,c4,c5,c6,c7,c8,c9]) rfl ⟨by rw [za ER];rfl,?_⟩;exact ⟨(za KA).bel.grown (za GU) (by omega),_,_,za EQ,(za HY).grown _ _ _ _ _ (za KA).sv (za GU) (by omega)⟩
end WWk
end Go.Proofs.YtpggbphcbcogdaaGreatDoor
