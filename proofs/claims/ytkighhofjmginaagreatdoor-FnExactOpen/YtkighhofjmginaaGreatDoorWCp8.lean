import Derived.Test.YtkighhofjmginaaGreatDoorG41
namespace Go.Proofs.YtkighhofjmginaaGreatDoor
open Go.RowKit
namespace WCp8
theorem infoZ:(Tryz.prog.info? 100).map (fun i=>(i.zero,i.size,i.bytes))=some (some (.agg #[.int .i64 0, .slice none 0 0]),2,32):=by kernel_rfl
theorem infoMn:(Tryz.prog.info? 56).map (fun i=>(i.zero,i.size,i.bytes))=some (some (.agg #[.string ⟨#[]⟩, .int .i64 0, .bool false]),3,32):=by kernel_rfl
theorem infoHn:(Tryz.prog.info? 67).map (fun i=>(i.zero,i.size,i.bytes))=some (some (.agg #[.int .i64 0, .int .i64 0, .string ⟨#[]⟩]),3,32):=by kernel_rfl
structure R5 (wr W:World) (d:Int) (Hh:Nat) (R:List (Int × List Pl.Nd)) (a7:Option Addr) (c7:Nat) (Js:List Pl.It) (X:Nat):Prop where
 bel:Below wr.heap.size wr W
 ib:Mem.Ib W wr.heap.size Hh (.slice a7 Js.length c7) Js
 le:wr.heap.size≤Hh
 hs:Hh≤W.heap.size
 reads:Js.map Pl.It.r=R
 blk:Mem.Blk W X #[.int .i64 d, .slice a7 Js.length c7] 100
 xs:Hh≤X
theorem meet5 {P F:World→Option Addr→Nat→List Pl.It→Nat→Prop} {G:Prop} (h1:(∀W a c J X,F W a c J X→P W a c J X)→G) (h2:∀W a c J X,F W a c J X→P W a c J X):G:=h1 h2
theorem meet8 {P F:World→Nat→Option Addr→Nat→Option Addr→Nat→Nat→Nat→Prop} {G:Prop} (h1:(∀W X a ca b cb x y,F W X a ca b cb x y→P W X a ca b cb x y)→G) (h2:∀W X a ca b cb x y,F W X a ca b cb x y→P W X a ca b cb x y):G:=h1 h2
structure Ck (w W:World) (X S1:Nat) (cs:Array Value) (a b:Option Addr) (ca cb:Nat) (M:List Pl.Mn) (H:List Pl.Hn) (O:Array Value):Prop where
 bel:Below w.heap.size w W
 b1:Mem.Blk W w.heap.size cs 32
 b2:Mem.Blk W (w.heap.size+1) #[.slice none 0 0, .slice none 0 0, .slice none 0 0, .int .i64 0] 32
 b3:Mem.Blk W X O 32
 xl:w.heap.size+1<X∧X<S1
 om:Mem.own3 56 Pl.Mn.cs W (w.heap.size+2) (.slice a M.length ca) M
 oh:Mem.own3 67 Pl.Hn.cs W (w.heap.size+2) (.slice b H.length cb) H
 hm:∀g,(Value.slice a M.length ca).ownBlock=some g→g<S1∧g≠X
 hh:∀g,(Value.slice b H.length cb).ownBlock=some g→g<S1∧g≠X
 ne:∀g,(Value.slice a M.length ca).ownBlock=some g→(Value.slice b H.length cb).ownBlock≠some g
section
variable {w W W':World} {X S1:Nat} {cs:Array Value} {a b:Option Addr} {ca cb:Nat} {M:List Pl.Mn} {H:List Pl.Hn} {O:Array Value}
theorem Ck.call (h:Ck w W X S1 cs a b ca cb M H O) (d:Below W.heap.size W W'):Ck w W' X S1 cs a b ca cb M H O:=⟨h.bel.trans (d.mono h.bel.size),h.b1.call d,h.b2.call d,h.b3.call d,h.xl,Mem.zd7 h.om d,Mem.zd7 h.oh d,h.hm,h.hh,h.ne⟩
theorem Ck.grown {r:Option Nat} (h:Ck w W X S1 cs a b ca cb M H O) (g:W.grownBy W' r) (hr:∀q,r=some q→S1≤q):Ck w W' X S1 cs a b ca cb M H O:=
 ⟨h.bel.grown g h.bel.size (fun q hq=>by have :=hr q hq;have :=h.xl;omega),h.b1.grown g (fun e=>by have :=hr _ e.symm;have :=h.xl;omega),h.b2.grown g (fun e=>by have :=hr _ e.symm;have :=h.xl;omega),h.b3.grown g (fun e=>by have :=hr _ e.symm;have :=h.xl;omega),h.xl,Mem.ze6 h.om (fun q hq=>g.block q (Mem.zb h.om q hq).2 (fun e=>by have :=hr _ e.symm;have :=(h.hm q hq).1;omega)),Mem.ze6 h.oh (fun q hq=>g.block q (Mem.zb h.oh q hq).2 (fun e=>by have :=hr _ e.symm;have :=(h.hh q hq).1;omega)),h.hm,h.hh,h.ne⟩
theorem Ck.put (h:Ck w W X S1 cs a b ca cb M H O) (k:Nat) (v:Value):Ck w (W.setCell ⟨X,k,none⟩ v) X S1 cs a b ca cb M H (O.setIfInBounds k v):=
 ⟨h.bel.setCell (by have :=h.xl;show w.heap.size≤X;omega) _,h.b1.far _ _ (by have :=h.xl;show w.heap.size≠X;omega),h.b2.far _ _ (by have :=h.xl;show w.heap.size+1≠X;omega),h.b3.put k v,h.xl,Mem.zb2 h.om _ _ (fun g hg e=>(h.hm g hg).2 e.symm),Mem.zb2 h.oh _ _ (fun g hg e=>(h.hh g hg).2 e.symm),h.hm,h.hh,h.ne⟩
end
structure Cpd (w W:World) (s u:Pl.Sp) (S1:Nat) (lo hi:Nat→Nat):Prop where
 n:u.N.map Pl.Ns.r=s.N.map Pl.Ns.r
 m:u.M=s.M
 h:u.H=s.H
 x:u.next=s.next
 s1:w.heap.size≤S1
 iz:Mem.Iz W S1 (.slice u.ia u.N.length u.ic) u.N lo hi
 om:Mem.own3 56 Pl.Mn.cs W w.heap.size (.slice u.ma u.M.length u.mc) u.M
 oh:Mem.own3 67 Pl.Hn.cs W w.heap.size (.slice u.ha u.H.length u.hc) u.H
 hm:∀g,(Value.slice u.ma u.M.length u.mc).ownBlock=some g→g<S1
 hh:∀g,(Value.slice u.ha u.H.length u.hc).ownBlock=some g→g<S1
 ne:∀g,(Value.slice u.ma u.M.length u.mc).ownBlock=some g→(Value.slice u.ha u.H.length u.hc).ownBlock≠some g
theorem Cpd.space {w W:World} {s u:Pl.Sp} {S1:Nat} {lo hi:Nat→Nat} (h:Cpd w W s u S1 lo hi):Mem.zc9 W u:=by
 obtain ⟨a,c,e,h1, -⟩:=Mem.zr2 Pl.Mn.three h.om;obtain ⟨a',c',e',h1', -⟩:=Mem.zr2 Pl.Hn.three h.oh;cases e
 cases e'
 exact ⟨h.iz.zi9.2,Mem.zq5 h1,Mem.zt4 h1'⟩
set_option linter.unusedSimpArgs false in
set_option maxRecDepth 100000 in
set_option maxHeartbeats 8000000 in
theorem zy4 (s:Pl.Sp) (w:World) (hv:Mem.zc9 w s) (hma:∃g o,s.ma=some ⟨g,o,none⟩) (hha:∃g o,s.ha=some ⟨g,o,none⟩) (hM:s.M.length≤6) (hH:s.H.length≤6) (hN:s.N.length≤12)
  (hI:∀x∈s.N,x.Is.length≤12∧x.Is.length≠0∧(∀t∈x.Is,t.t.L.length≤1000)∧(∃g,x.a=some ⟨g,0,none⟩)∧∀t∈x.Is,Mem.okR t.t.a t.t.cap t.t.L):
  Calls Tryz.prog 28 #[.agg s.cs] w fun e w'=>(∃u,e= .returned (.agg u.cs)∧∃S1 lo hi,Cpd w w' s u S1 lo hi)∧Below w.heap.size w w':=by
 obtain ⟨i0,hi0,hz0,hz1,hz2⟩:=info_parts infoZ;obtain ⟨j0,hj0,hjz0,hjz1,hjz2⟩:=info_parts infoMn;obtain ⟨l0,hl0,hlz0,hlz1,hlz2⟩:=info_parts infoHn;obtain ⟨ia,ic,N,ma,mc,M,ha,hc,H,next⟩:=s;simp only at hma hha hM hH hN hI;obtain ⟨gm,om,rfl⟩:=hma;obtain ⟨gh,oh,rfl⟩:=hha;have HVI:=hide (fun W (b:Below w.heap.size w W)=>Mem.zg0 hv.zi9 b);have HVM:=hide (fun W (b:Below w.heap.size w W)=>Mem.ya6 Pl.Mn.three (Mem.yf0 (Mem.zd9 hv.zh9 b)));have HVH:=hide (fun W (b:Below w.heap.size w W)=>Mem.ya6 Pl.Hn.three (Mem.yf7 (Mem.zf2 hv.hands b)));have HII:=hide hI;clear hv hI;unfold Pl.Sp.cs;simp only at HVI HVM HVH ⊢
 have bb0:Below w.heap.size w ((w.alloc (.cells #[.slice ia N.length ic, .slice (some ⟨gm,om,none⟩) M.length mc, .slice (some ⟨gh,oh,none⟩) H.length hc, .int .i64 next] 32)).alloc (.cells #[.slice none 0 0, .slice none 0 0, .slice none 0 0, .int .i64 0] 32)):=(bE0).alloc (by simp) _;have V0:=hide ((Mem.Blk.new w #[.slice ia N.length ic, .slice (some ⟨gm,om,none⟩) M.length mc, .slice (some ⟨gh,oh,none⟩) H.length hc, .int .i64 next] 32).alloc (.cells #[.slice none 0 0, .slice none 0 0, .slice none 0 0, .int .i64 0] 32))
 have R0:Hid (Mem.Blk ((w.alloc (.cells #[.slice ia N.length ic, .slice (some ⟨gm,om,none⟩) M.length mc, .slice (some ⟨gh,oh,none⟩) H.length hc, .int .i64 next] 32)).alloc (.cells #[.slice none 0 0, .slice none 0 0, .slice none 0 0, .int .i64 0] 32)) (w.heap.size+1) #[.slice none 0 0, .slice none 0 0, .slice none 0 0, .int .i64 0] 32):=hide (Mem.zi _ _ _);go_enter Tryz.func28,Tryz.ntmps28
 go_upto_region 1 with fail
 generalize (w.alloc (.cells #[.slice ia N.length ic, .slice (some ⟨gm,om,none⟩) M.length mc, .slice (some ⟨gh,oh,none⟩) H.length hc, .int .i64 next] 32)).alloc (.cells #[.slice none 0 0, .slice none 0 0, .slice none 0 0, .int .i64 0] 32)=wv at bb0 V0 R0 ⊢;have hlv:=(za R0).lt;have MK0:Hid (∀W',Below wv.heap.size wv W'→(Below wv.heap.size wv W'∧W'.cell? ⟨w.heap.size,1,none⟩=some (.slice (some ⟨gm,om,none⟩) M.length mc)∧W'.cell? ⟨w.heap.size,2,none⟩=some (.slice (some ⟨gh,oh,none⟩) H.length hc)∧W'.cell? ⟨w.heap.size,3,none⟩=some (.int .i64 next))):=fun W' b=>⟨b,((za V0).call b).cell 1,((za V0).call b).cell 2,((za V0).call b).cell 3⟩;have HSM:=hide (fun W (b:Below wv.heap.size wv W)=>za HVM W (bb0.trans (b.mono bb0.size)));have HSH:=hide (fun W (b:Below wv.heap.size wv W)=>za HVH W (bb0.trans (b.mono bb0.size)))
 refine zy0 (R:=fun T0 T' W=>∃ (D0:World) (X:Nat) (a:Option Addr) (ca:Nat) (b:Option Addr) (cb:Nat),(∃b0 b4:Value,T'=((((((((((((T0).setIfInBounds 5 (b0)).setIfInBounds 6 (.pointer (some ⟨w.heap.size,1,none⟩))).setIfInBounds 7 (.slice (some ⟨gm,om,none⟩) M.length mc)).setIfInBounds 8 (.slice a M.length ca)).setIfInBounds 9 (b4)).setIfInBounds 10 (.pointer (some ⟨w.heap.size,2,none⟩))).setIfInBounds 11 (.slice (some ⟨gh,oh,none⟩) H.length hc)).setIfInBounds 12 (.slice b H.length cb)).setIfInBounds 13 (.pointer (some ⟨w.heap.size,3,none⟩))).setIfInBounds 14 (.int .i64 next)).setIfInBounds 15 (.agg #[.slice none 0 0, .slice a M.length ca, .slice b H.length cb, .int .i64 next])).setIfInBounds 3 (.pointer (some ⟨X,0,none⟩)))∧D0.heap.size=wv.heap.size∧Below wv.heap.size wv W∧Cp8.Rk D0 W X a b ca cb M H next) ?_ ?_
 ·refine wp_region_held_drew (S:=fun W'=>Below wv.heap.size wv W'∧W'.cell? ⟨w.heap.size,1,none⟩=some (.slice (some ⟨gm,om,none⟩) M.length mc)∧W'.cell? ⟨w.heap.size,2,none⟩=some (.slice (some ⟨gh,oh,none⟩) H.length hc)∧W'.cell? ⟨w.heap.size,3,none⟩=some (.int .i64 next)) (by kernel_rfl) ?_ (fun hHeld=>?_)
  ·exact za MK0 _ (bD _)
  have hD0:Hid (wv.drew.heap.size=wv.heap.size):=hide rfl;have MK1:Hid (∀W',Below wv.drew.heap.size wv.drew W'→(Below wv.heap.size wv W'∧W'.cell? ⟨w.heap.size,1,none⟩=some (.slice (some ⟨gm,om,none⟩) M.length mc)∧W'.cell? ⟨w.heap.size,2,none⟩=some (.slice (some ⟨gh,oh,none⟩) H.length hc)∧W'.cell? ⟨w.heap.size,3,none⟩=some (.int .i64 next))):=hide (fun W' b=>za MK0 W' ((⟨rfl,rfl,rfl,Nat.le_refl _,fun _ _=>rfl⟩:Below wv.heap.size wv wv.drew).trans b));generalize wv.drew=D0 at hHeld hD0 MK1 ⊢;refine TB 1 ?_;refine TB 2 ?_;refine TB 5 ?_;refine TB 6 ?_;refine TB 8 ?_;refine TB 9 ?_;have h:Cp8.P1 D0 D0 none none none:=⟨Below.refl _ _,fun _ h=>(by cases h),fun _ _ h=>(by cases h),fun _ _ h=>(by cases h),fun _ _ _ _ h=>(by cases h)⟩
  apply meet8 (F:=fun W X a ca b cb B0 B4=>Cp8.P1 D0 W (some X) (some (.slice a M.length ca,M)) (some (.slice b H.length cb,H)))
  ·intro hEnd;refine wpAnyH_ready (rs:=[0,4,11]) (by kernel_rfl) (by simp) ?_;refine AllReadyH.cons rfl (fun K hK=>?_) (AllReadyH.cons rfl (fun K hK=>?_) (AllReadyH.cons rfl (fun K hK=>?_) (AllReadyH.nil)))
   ·go_simp
    replace h:=h.mm;refine hK.out _ _ ?_ (fun hHeld=>?_)
    ·exact za MK1 _ h.bel
    clear hK K
    try simp only [Act.put,kBs]
    generalize D0.alloc (.cells #[] 56)=C0 at hHeld h ⊢;generalize D0.heap.size=B0 at h ⊢;refine wpAnyH_ready (rs:=[3,4,11]) (by kernel_rfl) (by simp) ?_;refine AllReadyH.cons rfl (fun K hK=>?_) (AllReadyH.cons rfl (fun K hK=>?_) (AllReadyH.cons rfl (fun K hK=>?_) (AllReadyH.nil)))
    ·refine Mem.za6 rfl _ _ 29 rfl D0.heap.size 56 j0 _ 3 32 Tryz.underlying29 hj0 hjz0 hjz1 hjz2 rfl (by decide) (.slice (some ⟨B0,0,none⟩) 0 0) 0 [] rfl (h.q1 _ _ rfl).1 (some ⟨gm,om,none⟩) M.length mc (Pl.cells3 Pl.Mn.cs M) rfl (by rw [Pl.zb5 Pl.Mn.three]) (.inl ⟨_,rfl,za HSM _ hHeld.1⟩) (Mem.zd0 Mem.zn1 M) (by unfold maxLen;omega) (by omega) h.bel.size ?_;intro v3 C3 own gr far;rw [Nat.zero_add,List.nil_append] at own;obtain ⟨a3,c3,rfl⟩:=Mem.za7 own;replace h:=h.am own gr far;refine hK.out _ _ ?_ (fun hHeld=>?_)
     ·exact za MK1 _ h.bel
     clear hK K
     try simp only [Act.put,kBs]
     clear own gr far;refine wpAnyH_ready (rs:=[4,11]) (by kernel_rfl) (by simp) ?_;refine AllReadyH.cons rfl (fun K hK=>?_) (AllReadyH.cons rfl (fun K hK=>?_) (AllReadyH.nil))
     ·go_simp
      replace h:=h.mh;refine hK.out _ _ ?_ (fun hHeld=>?_)
      ·exact za MK1 _ h.bel
      clear hK K
      try simp only [Act.put,kBs]
      generalize C3.alloc (.cells #[] 67)=C4 at hHeld h ⊢;generalize C3.heap.size=B4 at h ⊢;refine wpAnyH_ready (rs:=[7,11]) (by kernel_rfl) (by simp) ?_;refine AllReadyH.cons rfl (fun K hK=>?_) (AllReadyH.cons rfl (fun K hK=>?_) (AllReadyH.nil))
      ·refine Mem.za6 rfl _ _ 30 rfl D0.heap.size 67 l0 _ 3 32 Tryz.underlying30 hl0 hlz0 hlz1 hlz2 rfl (by decide) (.slice (some ⟨B4,0,none⟩) 0 0) 0 [] rfl (h.q2 _ _ rfl).1 (some ⟨gh,oh,none⟩) H.length hc (Pl.cells3 Pl.Hn.cs H) rfl (by rw [Pl.zb5 Pl.Hn.three]) (.inl ⟨_,rfl,za HSH _ hHeld.1⟩) (Mem.zd0 Mem.zj1 H) (by unfold maxLen;omega) (by omega) h.bel.size ?_;intro v7 C7 own gr far;rw [Nat.zero_add,List.nil_append] at own;obtain ⟨a7,c7,rfl⟩:=Mem.za7 own;replace h:=h.ah own gr far;refine hK.out _ _ ?_ (fun hHeld=>?_)
       ·exact za MK1 _ h.bel
       clear hK K
       try simp only [Act.put,kBs]
       clear own gr far;refine TB 10 ?_;refine RN 11 fun K hK=>?_;go_simp
       replace h:=h.ax;refine hK.out _ _ ?_ (fun hHeld=>?_)
       ·exact za MK1 _ h.bel
       clear hK K
       try simp only [Act.put,kBs]
       generalize C7.alloc Cp8.Z=C11 at hHeld h ⊢;generalize C7.heap.size=B11 at h ⊢;exact hEnd C11 B11 a3 c3 a7 c7 B0 B4 h
      ·go_simp
       replace h:=h.ax;refine hK.out _ _ ?_ (fun hHeld=>?_)
       ·exact za MK1 _ h.bel
       clear hK K
       try simp only [Act.put,kBs]
       generalize C4.alloc Cp8.Z=C11 at hHeld h ⊢;generalize C4.heap.size=B11 at h ⊢;refine RN 7 fun K hK=>?_;refine Mem.za6 rfl _ _ 30 rfl D0.heap.size 67 l0 _ 3 32 Tryz.underlying30 hl0 hlz0 hlz1 hlz2 rfl (by decide) (.slice (some ⟨B4,0,none⟩) 0 0) 0 [] rfl (h.q2 _ _ rfl).1 (some ⟨gh,oh,none⟩) H.length hc (Pl.cells3 Pl.Hn.cs H) rfl (by rw [Pl.zb5 Pl.Hn.three]) (.inl ⟨_,rfl,za HSH _ hHeld.1⟩) (Mem.zd0 Mem.zj1 H) (by unfold maxLen;omega) (by omega) h.bel.size ?_;intro v7 C7 own gr far;rw [Nat.zero_add,List.nil_append] at own;obtain ⟨a7,c7,rfl⟩:=Mem.za7 own;replace h:=h.ah own gr far;refine hK.out _ _ ?_ (fun hHeld=>?_)
       ·exact za MK1 _ h.bel
       clear hK K
       try simp only [Act.put,kBs]
       clear own gr far;refine TB 10 ?_;exact hEnd C7 B11 a3 c3 a7 c7 B0 B4 h
     ·go_simp
      replace h:=h.ax;refine hK.out _ _ ?_ (fun hHeld=>?_)
      ·exact za MK1 _ h.bel
      clear hK K
      try simp only [Act.put,kBs]
      generalize C3.alloc Cp8.Z=C11 at hHeld h ⊢;generalize C3.heap.size=B11 at h ⊢;refine RN 4 fun K hK=>?_;go_simp
      replace h:=h.mh;refine hK.out _ _ ?_ (fun hHeld=>?_)
      ·exact za MK1 _ h.bel
      clear hK K
      try simp only [Act.put,kBs]
      generalize C11.alloc (.cells #[] 67)=C4 at hHeld h ⊢;generalize C11.heap.size=B4 at h ⊢;refine RN 7 fun K hK=>?_;refine Mem.za6 rfl _ _ 30 rfl D0.heap.size 67 l0 _ 3 32 Tryz.underlying30 hl0 hlz0 hlz1 hlz2 rfl (by decide) (.slice (some ⟨B4,0,none⟩) 0 0) 0 [] rfl (h.q2 _ _ rfl).1 (some ⟨gh,oh,none⟩) H.length hc (Pl.cells3 Pl.Hn.cs H) rfl (by rw [Pl.zb5 Pl.Hn.three]) (.inl ⟨_,rfl,za HSH _ hHeld.1⟩) (Mem.zd0 Mem.zj1 H) (by unfold maxLen;omega) (by omega) h.bel.size ?_;intro v7 C7 own gr far;rw [Nat.zero_add,List.nil_append] at own;obtain ⟨a7,c7,rfl⟩:=Mem.za7 own;replace h:=h.ah own gr far;refine hK.out _ _ ?_ (fun hHeld=>?_)
      ·exact za MK1 _ h.bel
      clear hK K
      try simp only [Act.put,kBs]
      clear own gr far;refine TB 10 ?_;exact hEnd C7 B11 a3 c3 a7 c7 B0 B4 h
    ·go_simp
     replace h:=h.mh;refine hK.out _ _ ?_ (fun hHeld=>?_)
     ·exact za MK1 _ h.bel
     clear hK K
     try simp only [Act.put,kBs]
     generalize C0.alloc (.cells #[] 67)=C4 at hHeld h ⊢;generalize C0.heap.size=B4 at h ⊢;refine wpAnyH_ready (rs:=[3,11]) (by kernel_rfl) (by simp) ?_;refine AllReadyH.cons rfl (fun K hK=>?_) (AllReadyH.cons rfl (fun K hK=>?_) (AllReadyH.nil))
     ·refine Mem.za6 rfl _ _ 29 rfl D0.heap.size 56 j0 _ 3 32 Tryz.underlying29 hj0 hjz0 hjz1 hjz2 rfl (by decide) (.slice (some ⟨B0,0,none⟩) 0 0) 0 [] rfl (h.q1 _ _ rfl).1 (some ⟨gm,om,none⟩) M.length mc (Pl.cells3 Pl.Mn.cs M) rfl (by rw [Pl.zb5 Pl.Mn.three]) (.inl ⟨_,rfl,za HSM _ hHeld.1⟩) (Mem.zd0 Mem.zn1 M) (by unfold maxLen;omega) (by omega) h.bel.size ?_;intro v3 C3 own gr far;rw [Nat.zero_add,List.nil_append] at own;obtain ⟨a3,c3,rfl⟩:=Mem.za7 own;replace h:=h.am own gr far;refine hK.out _ _ ?_ (fun hHeld=>?_)
      ·exact za MK1 _ h.bel
      clear hK K
      try simp only [Act.put,kBs]
      clear own gr far;refine wpAnyH_ready (rs:=[7,11]) (by kernel_rfl) (by simp) ?_;refine AllReadyH.cons rfl (fun K hK=>?_) (AllReadyH.cons rfl (fun K hK=>?_) (AllReadyH.nil))
      ·refine Mem.za6 rfl _ _ 30 rfl D0.heap.size 67 l0 _ 3 32 Tryz.underlying30 hl0 hlz0 hlz1 hlz2 rfl (by decide) (.slice (some ⟨B4,0,none⟩) 0 0) 0 [] rfl (h.q2 _ _ rfl).1 (some ⟨gh,oh,none⟩) H.length hc (Pl.cells3 Pl.Hn.cs H) rfl (by rw [Pl.zb5 Pl.Hn.three]) (.inl ⟨_,rfl,za HSH _ hHeld.1⟩) (Mem.zd0 Mem.zj1 H) (by unfold maxLen;omega) (by omega) h.bel.size ?_;intro v7 C7 own gr far;rw [Nat.zero_add,List.nil_append] at own;obtain ⟨a7,c7,rfl⟩:=Mem.za7 own;replace h:=h.ah own gr far;refine hK.out _ _ ?_ (fun hHeld=>?_)
       ·exact za MK1 _ h.bel
       clear hK K
       try simp only [Act.put,kBs]
       clear own gr far;refine TB 10 ?_;refine RN 11 fun K hK=>?_;go_simp
       replace h:=h.ax;refine hK.out _ _ ?_ (fun hHeld=>?_)
       ·exact za MK1 _ h.bel
       clear hK K
       try simp only [Act.put,kBs]
       generalize C7.alloc Cp8.Z=C11 at hHeld h ⊢;generalize C7.heap.size=B11 at h ⊢;exact hEnd C11 B11 a3 c3 a7 c7 B0 B4 h
      ·go_simp
       replace h:=h.ax;refine hK.out _ _ ?_ (fun hHeld=>?_)
       ·exact za MK1 _ h.bel
       clear hK K
       try simp only [Act.put,kBs]
       generalize C3.alloc Cp8.Z=C11 at hHeld h ⊢;generalize C3.heap.size=B11 at h ⊢;refine RN 7 fun K hK=>?_;refine Mem.za6 rfl _ _ 30 rfl D0.heap.size 67 l0 _ 3 32 Tryz.underlying30 hl0 hlz0 hlz1 hlz2 rfl (by decide) (.slice (some ⟨B4,0,none⟩) 0 0) 0 [] rfl (h.q2 _ _ rfl).1 (some ⟨gh,oh,none⟩) H.length hc (Pl.cells3 Pl.Hn.cs H) rfl (by rw [Pl.zb5 Pl.Hn.three]) (.inl ⟨_,rfl,za HSH _ hHeld.1⟩) (Mem.zd0 Mem.zj1 H) (by unfold maxLen;omega) (by omega) h.bel.size ?_;intro v7 C7 own gr far;rw [Nat.zero_add,List.nil_append] at own;obtain ⟨a7,c7,rfl⟩:=Mem.za7 own;replace h:=h.ah own gr far;refine hK.out _ _ ?_ (fun hHeld=>?_)
       ·exact za MK1 _ h.bel
       clear hK K
       try simp only [Act.put,kBs]
       clear own gr far;refine TB 10 ?_;exact hEnd C7 B11 a3 c3 a7 c7 B0 B4 h
     ·go_simp
      replace h:=h.ax;refine hK.out _ _ ?_ (fun hHeld=>?_)
      ·exact za MK1 _ h.bel
      clear hK K
      try simp only [Act.put,kBs]
      generalize C4.alloc Cp8.Z=C11 at hHeld h ⊢;generalize C4.heap.size=B11 at h ⊢;refine RN 3 fun K hK=>?_;refine Mem.za6 rfl _ _ 29 rfl D0.heap.size 56 j0 _ 3 32 Tryz.underlying29 hj0 hjz0 hjz1 hjz2 rfl (by decide) (.slice (some ⟨B0,0,none⟩) 0 0) 0 [] rfl (h.q1 _ _ rfl).1 (some ⟨gm,om,none⟩) M.length mc (Pl.cells3 Pl.Mn.cs M) rfl (by rw [Pl.zb5 Pl.Mn.three]) (.inl ⟨_,rfl,za HSM _ hHeld.1⟩) (Mem.zd0 Mem.zn1 M) (by unfold maxLen;omega) (by omega) h.bel.size ?_;intro v3 C3 own gr far;rw [Nat.zero_add,List.nil_append] at own;obtain ⟨a3,c3,rfl⟩:=Mem.za7 own;replace h:=h.am own gr far;refine hK.out _ _ ?_ (fun hHeld=>?_)
      ·exact za MK1 _ h.bel
      clear hK K
      try simp only [Act.put,kBs]
      clear own gr far;refine RN 7 fun K hK=>?_;refine Mem.za6 rfl _ _ 30 rfl D0.heap.size 67 l0 _ 3 32 Tryz.underlying30 hl0 hlz0 hlz1 hlz2 rfl (by decide) (.slice (some ⟨B4,0,none⟩) 0 0) 0 [] rfl (h.q2 _ _ rfl).1 (some ⟨gh,oh,none⟩) H.length hc (Pl.cells3 Pl.Hn.cs H) rfl (by rw [Pl.zb5 Pl.Hn.three]) (.inl ⟨_,rfl,za HSH _ hHeld.1⟩) (Mem.zd0 Mem.zj1 H) (by unfold maxLen;omega) (by omega) h.bel.size ?_;intro v7 C7 own gr far;rw [Nat.zero_add,List.nil_append] at own;obtain ⟨a7,c7,rfl⟩:=Mem.za7 own;replace h:=h.ah own gr far;refine hK.out _ _ ?_ (fun hHeld=>?_)
      ·exact za MK1 _ h.bel
      clear hK K
      try simp only [Act.put,kBs]
      clear own gr far;refine TB 10 ?_;exact hEnd C7 B11 a3 c3 a7 c7 B0 B4 h
    ·go_simp
     replace h:=h.ax;refine hK.out _ _ ?_ (fun hHeld=>?_)
     ·exact za MK1 _ h.bel
     clear hK K
     try simp only [Act.put,kBs]
     generalize C0.alloc Cp8.Z=C11 at hHeld h ⊢;generalize C0.heap.size=B11 at h ⊢;refine wpAnyH_ready (rs:=[3,4]) (by kernel_rfl) (by simp) ?_;refine AllReadyH.cons rfl (fun K hK=>?_) (AllReadyH.cons rfl (fun K hK=>?_) (AllReadyH.nil))
     ·refine Mem.za6 rfl _ _ 29 rfl D0.heap.size 56 j0 _ 3 32 Tryz.underlying29 hj0 hjz0 hjz1 hjz2 rfl (by decide) (.slice (some ⟨B0,0,none⟩) 0 0) 0 [] rfl (h.q1 _ _ rfl).1 (some ⟨gm,om,none⟩) M.length mc (Pl.cells3 Pl.Mn.cs M) rfl (by rw [Pl.zb5 Pl.Mn.three]) (.inl ⟨_,rfl,za HSM _ hHeld.1⟩) (Mem.zd0 Mem.zn1 M) (by unfold maxLen;omega) (by omega) h.bel.size ?_;intro v3 C3 own gr far;rw [Nat.zero_add,List.nil_append] at own;obtain ⟨a3,c3,rfl⟩:=Mem.za7 own;replace h:=h.am own gr far;refine hK.out _ _ ?_ (fun hHeld=>?_)
      ·exact za MK1 _ h.bel
      clear hK K
      try simp only [Act.put,kBs]
      clear own gr far;refine RN 4 fun K hK=>?_;go_simp
      replace h:=h.mh;refine hK.out _ _ ?_ (fun hHeld=>?_)
      ·exact za MK1 _ h.bel
      clear hK K
      try simp only [Act.put,kBs]
      generalize C3.alloc (.cells #[] 67)=C4 at hHeld h ⊢;generalize C3.heap.size=B4 at h ⊢;refine RN 7 fun K hK=>?_;refine Mem.za6 rfl _ _ 30 rfl D0.heap.size 67 l0 _ 3 32 Tryz.underlying30 hl0 hlz0 hlz1 hlz2 rfl (by decide) (.slice (some ⟨B4,0,none⟩) 0 0) 0 [] rfl (h.q2 _ _ rfl).1 (some ⟨gh,oh,none⟩) H.length hc (Pl.cells3 Pl.Hn.cs H) rfl (by rw [Pl.zb5 Pl.Hn.three]) (.inl ⟨_,rfl,za HSH _ hHeld.1⟩) (Mem.zd0 Mem.zj1 H) (by unfold maxLen;omega) (by omega) h.bel.size ?_;intro v7 C7 own gr far;rw [Nat.zero_add,List.nil_append] at own;obtain ⟨a7,c7,rfl⟩:=Mem.za7 own;replace h:=h.ah own gr far;refine hK.out _ _ ?_ (fun hHeld=>?_)
      ·exact za MK1 _ h.bel
      clear hK K
      try simp only [Act.put,kBs]
      clear own gr far;refine TB 10 ?_;exact hEnd C7 B11 a3 c3 a7 c7 B0 B4 h
     ·go_simp
      replace h:=h.mh;refine hK.out _ _ ?_ (fun hHeld=>?_)
      ·exact za MK1 _ h.bel
      clear hK K
      try simp only [Act.put,kBs]
      generalize C11.alloc (.cells #[] 67)=C4 at hHeld h ⊢;generalize C11.heap.size=B4 at h ⊢;refine RN 3 fun K hK=>?_;refine Mem.za6 rfl _ _ 29 rfl D0.heap.size 56 j0 _ 3 32 Tryz.underlying29 hj0 hjz0 hjz1 hjz2 rfl (by decide) (.slice (some ⟨B0,0,none⟩) 0 0) 0 [] rfl (h.q1 _ _ rfl).1 (some ⟨gm,om,none⟩) M.length mc (Pl.cells3 Pl.Mn.cs M) rfl (by rw [Pl.zb5 Pl.Mn.three]) (.inl ⟨_,rfl,za HSM _ hHeld.1⟩) (Mem.zd0 Mem.zn1 M) (by unfold maxLen;omega) (by omega) h.bel.size ?_;intro v3 C3 own gr far;rw [Nat.zero_add,List.nil_append] at own;obtain ⟨a3,c3,rfl⟩:=Mem.za7 own;replace h:=h.am own gr far;refine hK.out _ _ ?_ (fun hHeld=>?_)
      ·exact za MK1 _ h.bel
      clear hK K
      try simp only [Act.put,kBs]
      clear own gr far;refine RN 7 fun K hK=>?_;refine Mem.za6 rfl _ _ 30 rfl D0.heap.size 67 l0 _ 3 32 Tryz.underlying30 hl0 hlz0 hlz1 hlz2 rfl (by decide) (.slice (some ⟨B4,0,none⟩) 0 0) 0 [] rfl (h.q2 _ _ rfl).1 (some ⟨gh,oh,none⟩) H.length hc (Pl.cells3 Pl.Hn.cs H) rfl (by rw [Pl.zb5 Pl.Hn.three]) (.inl ⟨_,rfl,za HSH _ hHeld.1⟩) (Mem.zd0 Mem.zj1 H) (by unfold maxLen;omega) (by omega) h.bel.size ?_;intro v7 C7 own gr far;rw [Nat.zero_add,List.nil_append] at own;obtain ⟨a7,c7,rfl⟩:=Mem.za7 own;replace h:=h.ah own gr far;refine hK.out _ _ ?_ (fun hHeld=>?_)
      ·exact za MK1 _ h.bel
      clear hK K
      try simp only [Act.put,kBs]
      clear own gr far;refine TB 10 ?_;exact hEnd C7 B11 a3 c3 a7 c7 B0 B4 h
   ·go_simp
    replace h:=h.mh;refine hK.out _ _ ?_ (fun hHeld=>?_)
    ·exact za MK1 _ h.bel
    clear hK K
    try simp only [Act.put,kBs]
    generalize D0.alloc (.cells #[] 67)=C4 at hHeld h ⊢;generalize D0.heap.size=B4 at h ⊢;refine wpAnyH_ready (rs:=[0,11]) (by kernel_rfl) (by simp) ?_;refine AllReadyH.cons rfl (fun K hK=>?_) (AllReadyH.cons rfl (fun K hK=>?_) (AllReadyH.nil))
    ·go_simp
     replace h:=h.mm;refine hK.out _ _ ?_ (fun hHeld=>?_)
     ·exact za MK1 _ h.bel
     clear hK K
     try simp only [Act.put,kBs]
     generalize C4.alloc (.cells #[] 56)=C0 at hHeld h ⊢;generalize C4.heap.size=B0 at h ⊢;refine wpAnyH_ready (rs:=[3,11]) (by kernel_rfl) (by simp) ?_;refine AllReadyH.cons rfl (fun K hK=>?_) (AllReadyH.cons rfl (fun K hK=>?_) (AllReadyH.nil))
     ·refine Mem.za6 rfl _ _ 29 rfl D0.heap.size 56 j0 _ 3 32 Tryz.underlying29 hj0 hjz0 hjz1 hjz2 rfl (by decide) (.slice (some ⟨B0,0,none⟩) 0 0) 0 [] rfl (h.q1 _ _ rfl).1 (some ⟨gm,om,none⟩) M.length mc (Pl.cells3 Pl.Mn.cs M) rfl (by rw [Pl.zb5 Pl.Mn.three]) (.inl ⟨_,rfl,za HSM _ hHeld.1⟩) (Mem.zd0 Mem.zn1 M) (by unfold maxLen;omega) (by omega) h.bel.size ?_;intro v3 C3 own gr far;rw [Nat.zero_add,List.nil_append] at own;obtain ⟨a3,c3,rfl⟩:=Mem.za7 own;replace h:=h.am own gr far;refine hK.out _ _ ?_ (fun hHeld=>?_)
      ·exact za MK1 _ h.bel
      clear hK K
      try simp only [Act.put,kBs]
      clear own gr far;refine wpAnyH_ready (rs:=[7,11]) (by kernel_rfl) (by simp) ?_;refine AllReadyH.cons rfl (fun K hK=>?_) (AllReadyH.cons rfl (fun K hK=>?_) (AllReadyH.nil))
      ·refine Mem.za6 rfl _ _ 30 rfl D0.heap.size 67 l0 _ 3 32 Tryz.underlying30 hl0 hlz0 hlz1 hlz2 rfl (by decide) (.slice (some ⟨B4,0,none⟩) 0 0) 0 [] rfl (h.q2 _ _ rfl).1 (some ⟨gh,oh,none⟩) H.length hc (Pl.cells3 Pl.Hn.cs H) rfl (by rw [Pl.zb5 Pl.Hn.three]) (.inl ⟨_,rfl,za HSH _ hHeld.1⟩) (Mem.zd0 Mem.zj1 H) (by unfold maxLen;omega) (by omega) h.bel.size ?_;intro v7 C7 own gr far;rw [Nat.zero_add,List.nil_append] at own;obtain ⟨a7,c7,rfl⟩:=Mem.za7 own;replace h:=h.ah own gr far;refine hK.out _ _ ?_ (fun hHeld=>?_)
       ·exact za MK1 _ h.bel
       clear hK K
       try simp only [Act.put,kBs]
       clear own gr far;refine TB 10 ?_;refine RN 11 fun K hK=>?_;go_simp
       replace h:=h.ax;refine hK.out _ _ ?_ (fun hHeld=>?_)
       ·exact za MK1 _ h.bel
       clear hK K
       try simp only [Act.put,kBs]
       generalize C7.alloc Cp8.Z=C11 at hHeld h ⊢;generalize C7.heap.size=B11 at h ⊢;exact hEnd C11 B11 a3 c3 a7 c7 B0 B4 h
      ·go_simp
       replace h:=h.ax;refine hK.out _ _ ?_ (fun hHeld=>?_)
       ·exact za MK1 _ h.bel
       clear hK K
       try simp only [Act.put,kBs]
       generalize C3.alloc Cp8.Z=C11 at hHeld h ⊢;generalize C3.heap.size=B11 at h ⊢;refine RN 7 fun K hK=>?_;refine Mem.za6 rfl _ _ 30 rfl D0.heap.size 67 l0 _ 3 32 Tryz.underlying30 hl0 hlz0 hlz1 hlz2 rfl (by decide) (.slice (some ⟨B4,0,none⟩) 0 0) 0 [] rfl (h.q2 _ _ rfl).1 (some ⟨gh,oh,none⟩) H.length hc (Pl.cells3 Pl.Hn.cs H) rfl (by rw [Pl.zb5 Pl.Hn.three]) (.inl ⟨_,rfl,za HSH _ hHeld.1⟩) (Mem.zd0 Mem.zj1 H) (by unfold maxLen;omega) (by omega) h.bel.size ?_;intro v7 C7 own gr far;rw [Nat.zero_add,List.nil_append] at own;obtain ⟨a7,c7,rfl⟩:=Mem.za7 own;replace h:=h.ah own gr far;refine hK.out _ _ ?_ (fun hHeld=>?_)
       ·exact za MK1 _ h.bel
       clear hK K
       try simp only [Act.put,kBs]
       clear own gr far;refine TB 10 ?_;exact hEnd C7 B11 a3 c3 a7 c7 B0 B4 h
     ·go_simp
      replace h:=h.ax;refine hK.out _ _ ?_ (fun hHeld=>?_)
      ·exact za MK1 _ h.bel
      clear hK K
      try simp only [Act.put,kBs]
      generalize C0.alloc Cp8.Z=C11 at hHeld h ⊢;generalize C0.heap.size=B11 at h ⊢;refine RN 3 fun K hK=>?_;refine Mem.za6 rfl _ _ 29 rfl D0.heap.size 56 j0 _ 3 32 Tryz.underlying29 hj0 hjz0 hjz1 hjz2 rfl (by decide) (.slice (some ⟨B0,0,none⟩) 0 0) 0 [] rfl (h.q1 _ _ rfl).1 (some ⟨gm,om,none⟩) M.length mc (Pl.cells3 Pl.Mn.cs M) rfl (by rw [Pl.zb5 Pl.Mn.three]) (.inl ⟨_,rfl,za HSM _ hHeld.1⟩) (Mem.zd0 Mem.zn1 M) (by unfold maxLen;omega) (by omega) h.bel.size ?_;intro v3 C3 own gr far;rw [Nat.zero_add,List.nil_append] at own;obtain ⟨a3,c3,rfl⟩:=Mem.za7 own;replace h:=h.am own gr far;refine hK.out _ _ ?_ (fun hHeld=>?_)
      ·exact za MK1 _ h.bel
      clear hK K
      try simp only [Act.put,kBs]
      clear own gr far;refine RN 7 fun K hK=>?_;refine Mem.za6 rfl _ _ 30 rfl D0.heap.size 67 l0 _ 3 32 Tryz.underlying30 hl0 hlz0 hlz1 hlz2 rfl (by decide) (.slice (some ⟨B4,0,none⟩) 0 0) 0 [] rfl (h.q2 _ _ rfl).1 (some ⟨gh,oh,none⟩) H.length hc (Pl.cells3 Pl.Hn.cs H) rfl (by rw [Pl.zb5 Pl.Hn.three]) (.inl ⟨_,rfl,za HSH _ hHeld.1⟩) (Mem.zd0 Mem.zj1 H) (by unfold maxLen;omega) (by omega) h.bel.size ?_;intro v7 C7 own gr far;rw [Nat.zero_add,List.nil_append] at own;obtain ⟨a7,c7,rfl⟩:=Mem.za7 own;replace h:=h.ah own gr far;refine hK.out _ _ ?_ (fun hHeld=>?_)
      ·exact za MK1 _ h.bel
      clear hK K
      try simp only [Act.put,kBs]
      clear own gr far;refine TB 10 ?_;exact hEnd C7 B11 a3 c3 a7 c7 B0 B4 h
    ·go_simp
     replace h:=h.ax;refine hK.out _ _ ?_ (fun hHeld=>?_)
     ·exact za MK1 _ h.bel
     clear hK K
     try simp only [Act.put,kBs]
     generalize C4.alloc Cp8.Z=C11 at hHeld h ⊢;generalize C4.heap.size=B11 at h ⊢;refine RN 0 fun K hK=>?_;go_simp
     replace h:=h.mm;refine hK.out _ _ ?_ (fun hHeld=>?_)
     ·exact za MK1 _ h.bel
     clear hK K
     try simp only [Act.put,kBs]
     generalize C11.alloc (.cells #[] 56)=C0 at hHeld h ⊢;generalize C11.heap.size=B0 at h ⊢;refine RN 3 fun K hK=>?_;refine Mem.za6 rfl _ _ 29 rfl D0.heap.size 56 j0 _ 3 32 Tryz.underlying29 hj0 hjz0 hjz1 hjz2 rfl (by decide) (.slice (some ⟨B0,0,none⟩) 0 0) 0 [] rfl (h.q1 _ _ rfl).1 (some ⟨gm,om,none⟩) M.length mc (Pl.cells3 Pl.Mn.cs M) rfl (by rw [Pl.zb5 Pl.Mn.three]) (.inl ⟨_,rfl,za HSM _ hHeld.1⟩) (Mem.zd0 Mem.zn1 M) (by unfold maxLen;omega) (by omega) h.bel.size ?_;intro v3 C3 own gr far;rw [Nat.zero_add,List.nil_append] at own;obtain ⟨a3,c3,rfl⟩:=Mem.za7 own;replace h:=h.am own gr far;refine hK.out _ _ ?_ (fun hHeld=>?_)
     ·exact za MK1 _ h.bel
     clear hK K
     try simp only [Act.put,kBs]
     clear own gr far;refine RN 7 fun K hK=>?_;refine Mem.za6 rfl _ _ 30 rfl D0.heap.size 67 l0 _ 3 32 Tryz.underlying30 hl0 hlz0 hlz1 hlz2 rfl (by decide) (.slice (some ⟨B4,0,none⟩) 0 0) 0 [] rfl (h.q2 _ _ rfl).1 (some ⟨gh,oh,none⟩) H.length hc (Pl.cells3 Pl.Hn.cs H) rfl (by rw [Pl.zb5 Pl.Hn.three]) (.inl ⟨_,rfl,za HSH _ hHeld.1⟩) (Mem.zd0 Mem.zj1 H) (by unfold maxLen;omega) (by omega) h.bel.size ?_;intro v7 C7 own gr far;rw [Nat.zero_add,List.nil_append] at own;obtain ⟨a7,c7,rfl⟩:=Mem.za7 own;replace h:=h.ah own gr far;refine hK.out _ _ ?_ (fun hHeld=>?_)
     ·exact za MK1 _ h.bel
     clear hK K
     try simp only [Act.put,kBs]
     clear own gr far;refine TB 10 ?_;exact hEnd C7 B11 a3 c3 a7 c7 B0 B4 h
   ·go_simp
    replace h:=h.ax;refine hK.out _ _ ?_ (fun hHeld=>?_)
    ·exact za MK1 _ h.bel
    clear hK K
    try simp only [Act.put,kBs]
    generalize D0.alloc Cp8.Z=C11 at hHeld h ⊢;generalize D0.heap.size=B11 at h ⊢;refine wpAnyH_ready (rs:=[0,4]) (by kernel_rfl) (by simp) ?_;refine AllReadyH.cons rfl (fun K hK=>?_) (AllReadyH.cons rfl (fun K hK=>?_) (AllReadyH.nil))
    ·go_simp
     replace h:=h.mm;refine hK.out _ _ ?_ (fun hHeld=>?_)
     ·exact za MK1 _ h.bel
     clear hK K
     try simp only [Act.put,kBs]
     generalize C11.alloc (.cells #[] 56)=C0 at hHeld h ⊢;generalize C11.heap.size=B0 at h ⊢;refine wpAnyH_ready (rs:=[3,4]) (by kernel_rfl) (by simp) ?_;refine AllReadyH.cons rfl (fun K hK=>?_) (AllReadyH.cons rfl (fun K hK=>?_) (AllReadyH.nil))
     ·refine Mem.za6 rfl _ _ 29 rfl D0.heap.size 56 j0 _ 3 32 Tryz.underlying29 hj0 hjz0 hjz1 hjz2 rfl (by decide) (.slice (some ⟨B0,0,none⟩) 0 0) 0 [] rfl (h.q1 _ _ rfl).1 (some ⟨gm,om,none⟩) M.length mc (Pl.cells3 Pl.Mn.cs M) rfl (by rw [Pl.zb5 Pl.Mn.three]) (.inl ⟨_,rfl,za HSM _ hHeld.1⟩) (Mem.zd0 Mem.zn1 M) (by unfold maxLen;omega) (by omega) h.bel.size ?_;intro v3 C3 own gr far;rw [Nat.zero_add,List.nil_append] at own;obtain ⟨a3,c3,rfl⟩:=Mem.za7 own;replace h:=h.am own gr far;refine hK.out _ _ ?_ (fun hHeld=>?_)
      ·exact za MK1 _ h.bel
      clear hK K
      try simp only [Act.put,kBs]
      clear own gr far;refine RN 4 fun K hK=>?_;go_simp
      replace h:=h.mh;refine hK.out _ _ ?_ (fun hHeld=>?_)
      ·exact za MK1 _ h.bel
      clear hK K
      try simp only [Act.put,kBs]
      generalize C3.alloc (.cells #[] 67)=C4 at hHeld h ⊢;generalize C3.heap.size=B4 at h ⊢;refine RN 7 fun K hK=>?_;refine Mem.za6 rfl _ _ 30 rfl D0.heap.size 67 l0 _ 3 32 Tryz.underlying30 hl0 hlz0 hlz1 hlz2 rfl (by decide) (.slice (some ⟨B4,0,none⟩) 0 0) 0 [] rfl (h.q2 _ _ rfl).1 (some ⟨gh,oh,none⟩) H.length hc (Pl.cells3 Pl.Hn.cs H) rfl (by rw [Pl.zb5 Pl.Hn.three]) (.inl ⟨_,rfl,za HSH _ hHeld.1⟩) (Mem.zd0 Mem.zj1 H) (by unfold maxLen;omega) (by omega) h.bel.size ?_;intro v7 C7 own gr far;rw [Nat.zero_add,List.nil_append] at own;obtain ⟨a7,c7,rfl⟩:=Mem.za7 own;replace h:=h.ah own gr far;refine hK.out _ _ ?_ (fun hHeld=>?_)
      ·exact za MK1 _ h.bel
      clear hK K
      try simp only [Act.put,kBs]
      clear own gr far;refine TB 10 ?_;exact hEnd C7 B11 a3 c3 a7 c7 B0 B4 h
     ·go_simp
      replace h:=h.mh;refine hK.out _ _ ?_ (fun hHeld=>?_)
      ·exact za MK1 _ h.bel
      clear hK K
      try simp only [Act.put,kBs]
      generalize C0.alloc (.cells #[] 67)=C4 at hHeld h ⊢;generalize C0.heap.size=B4 at h ⊢;refine RN 3 fun K hK=>?_;refine Mem.za6 rfl _ _ 29 rfl D0.heap.size 56 j0 _ 3 32 Tryz.underlying29 hj0 hjz0 hjz1 hjz2 rfl (by decide) (.slice (some ⟨B0,0,none⟩) 0 0) 0 [] rfl (h.q1 _ _ rfl).1 (some ⟨gm,om,none⟩) M.length mc (Pl.cells3 Pl.Mn.cs M) rfl (by rw [Pl.zb5 Pl.Mn.three]) (.inl ⟨_,rfl,za HSM _ hHeld.1⟩) (Mem.zd0 Mem.zn1 M) (by unfold maxLen;omega) (by omega) h.bel.size ?_;intro v3 C3 own gr far;rw [Nat.zero_add,List.nil_append] at own;obtain ⟨a3,c3,rfl⟩:=Mem.za7 own;replace h:=h.am own gr far;refine hK.out _ _ ?_ (fun hHeld=>?_)
      ·exact za MK1 _ h.bel
      clear hK K
      try simp only [Act.put,kBs]
      clear own gr far;refine RN 7 fun K hK=>?_;refine Mem.za6 rfl _ _ 30 rfl D0.heap.size 67 l0 _ 3 32 Tryz.underlying30 hl0 hlz0 hlz1 hlz2 rfl (by decide) (.slice (some ⟨B4,0,none⟩) 0 0) 0 [] rfl (h.q2 _ _ rfl).1 (some ⟨gh,oh,none⟩) H.length hc (Pl.cells3 Pl.Hn.cs H) rfl (by rw [Pl.zb5 Pl.Hn.three]) (.inl ⟨_,rfl,za HSH _ hHeld.1⟩) (Mem.zd0 Mem.zj1 H) (by unfold maxLen;omega) (by omega) h.bel.size ?_;intro v7 C7 own gr far;rw [Nat.zero_add,List.nil_append] at own;obtain ⟨a7,c7,rfl⟩:=Mem.za7 own;replace h:=h.ah own gr far;refine hK.out _ _ ?_ (fun hHeld=>?_)
      ·exact za MK1 _ h.bel
      clear hK K
      try simp only [Act.put,kBs]
      clear own gr far;refine TB 10 ?_;exact hEnd C7 B11 a3 c3 a7 c7 B0 B4 h
    ·go_simp
     replace h:=h.mh;refine hK.out _ _ ?_ (fun hHeld=>?_)
     ·exact za MK1 _ h.bel
     clear hK K
     try simp only [Act.put,kBs]
     generalize C11.alloc (.cells #[] 67)=C4 at hHeld h ⊢;generalize C11.heap.size=B4 at h ⊢;refine RN 0 fun K hK=>?_;go_simp
     replace h:=h.mm;refine hK.out _ _ ?_ (fun hHeld=>?_)
     ·exact za MK1 _ h.bel
     clear hK K
     try simp only [Act.put,kBs]
     generalize C4.alloc (.cells #[] 56)=C0 at hHeld h ⊢;generalize C4.heap.size=B0 at h ⊢;refine RN 3 fun K hK=>?_;refine Mem.za6 rfl _ _ 29 rfl D0.heap.size 56 j0 _ 3 32 Tryz.underlying29 hj0 hjz0 hjz1 hjz2 rfl (by decide) (.slice (some ⟨B0,0,none⟩) 0 0) 0 [] rfl (h.q1 _ _ rfl).1 (some ⟨gm,om,none⟩) M.length mc (Pl.cells3 Pl.Mn.cs M) rfl (by rw [Pl.zb5 Pl.Mn.three]) (.inl ⟨_,rfl,za HSM _ hHeld.1⟩) (Mem.zd0 Mem.zn1 M) (by unfold maxLen;omega) (by omega) h.bel.size ?_;intro v3 C3 own gr far;rw [Nat.zero_add,List.nil_append] at own;obtain ⟨a3,c3,rfl⟩:=Mem.za7 own;replace h:=h.am own gr far;refine hK.out _ _ ?_ (fun hHeld=>?_)
     ·exact za MK1 _ h.bel
     clear hK K
     try simp only [Act.put,kBs]
     clear own gr far;refine RN 7 fun K hK=>?_;refine Mem.za6 rfl _ _ 30 rfl D0.heap.size 67 l0 _ 3 32 Tryz.underlying30 hl0 hlz0 hlz1 hlz2 rfl (by decide) (.slice (some ⟨B4,0,none⟩) 0 0) 0 [] rfl (h.q2 _ _ rfl).1 (some ⟨gh,oh,none⟩) H.length hc (Pl.cells3 Pl.Hn.cs H) rfl (by rw [Pl.zb5 Pl.Hn.three]) (.inl ⟨_,rfl,za HSH _ hHeld.1⟩) (Mem.zd0 Mem.zj1 H) (by unfold maxLen;omega) (by omega) h.bel.size ?_;intro v7 C7 own gr far;rw [Nat.zero_add,List.nil_append] at own;obtain ⟨a7,c7,rfl⟩:=Mem.za7 own;replace h:=h.ah own gr far;refine hK.out _ _ ?_ (fun hHeld=>?_)
     ·exact za MK1 _ h.bel
     clear hK K
     try simp only [Act.put,kBs]
     clear own gr far;refine TB 10 ?_;exact hEnd C7 B11 a3 c3 a7 c7 B0 B4 h
  ·intro W X a ca b cb B0 B4 h;have GOT:=hide (h.fin next);have E5:=(h.bx _ rfl).1;clear h;obtain ⟨⟨d0,d1,d2,d3⟩,f0,f1,f2,f3⟩:=jf4 E5;refine RN 12 fun K hK=>?_;go_simp
   refine hK.out _ _ ?_ (fun hHeld=>?_)
   ·exact za MK1 _ (za GOT).bel
   clear hK K
   try simp only [Act.put,kBs]
   refine wpAnyH_done (by kernel_rfl) ?_ _;refine ⟨rfl,rfl,D0,X,a,ca,b,cb,⟨.slice (some ⟨B0,0,none⟩) 0 0, .slice (some ⟨B4,0,none⟩) 0 0,?_⟩,za hD0,(⟨rfl,rfl,rfl,Nat.le_refl _,fun _ _=>rfl⟩:Below wv.heap.size wv wv).trans (hHeld.1),za GOT⟩;simp only [kB3,kB4,kB5]
 rintro T' vS ⟨D0,X,a,ca,b,cb,⟨e5,e9,hT'⟩,hD0,hbS,hRk⟩;simp only [kB3,kB4,kB5] at hT';subst hT';have hX:=hRk.bx.lt;have hlx:=hRk.lx;have CK:Hid (Ck w vS X vS.heap.size #[.slice ia N.length ic, .slice (some ⟨gm,om,none⟩) M.length mc, .slice (some ⟨gh,oh,none⟩) H.length hc, .int .i64 next] a b ca cb M H #[.slice none 0 0, .slice a M.length ca, .slice b H.length cb, .int .i64 next]):=hide ⟨bb0.trans (hbS.mono bb0.size),(za V0).call hbS,(za R0).call hbS,hRk.bx,⟨by omega,hX⟩,Mem.zl8 hRk.q1 (by omega),Mem.zl8 hRk.q2 (by omega),fun g hg=>⟨(Mem.zb hRk.q1 g hg).2,hRk.x1 g hg⟩,fun g hg=>⟨(Mem.zb hRk.q2 g hg).2,hRk.x2 g hg⟩,hRk.ne⟩;have Z5:Hid (Mem.Iz vS vS.heap.size (.slice none 0 0) [] (fun _=>0) (fun _=>0)):=hide (Mem.Iz.nil _ _ _ _);have hw1:w.heap.size≤vS.heap.size:=by omega
 clear hRk hbS bb0 V0 R0 hX hlx hD0 MK0 HSM HSH HVM HVH hlv;generalize hS1e:vS.heap.size=S1 at CK Z5 hw1;have hs1:S1≤vS.heap.size:=by omega
 clear hS1e;go_wp2
 go_loopw [4] (fun i wr=>∃ (k:Nat) (ai:Option Addr) (ci:Nat) (Ds:List Pl.Ns) (lo hi:Nat→Nat),k≤N.length∧i= .int .i64 (k:Int)∧Hid (Ck w wr X S1 #[.slice ia N.length ic, .slice (some ⟨gm,om,none⟩) M.length mc, .slice (some ⟨gh,oh,none⟩) H.length hc, .int .i64 next] a b ca cb M H #[.slice ai k ci, .slice a M.length ca, .slice b H.length cb, .int .i64 next])∧Hid (Mem.Iz wr S1 (.slice ai k ci) Ds lo hi)∧Hid (Ds.length=k)∧Hid (Ds.map Pl.Ns.r=(N.map Pl.Ns.r).take k)∧S1≤wr.heap.size) (fun i _=>N.length - (intOf i).toNat)
 case atStart=>exact ⟨0,none,0,[],_,_,Nat.zero_le _,rfl,CK,Z5,hide rfl,hide rfl,hs1⟩
 case round=>
  obtain ⟨k,ai,ci,Ds,lo,hi,hk,rfl,HT5,HIZ5,HDL,HDR,hS5⟩:=hrel;clear CK Z5 hs1;have a0:=(za HT5).b1.cell 0;simp only [kGs] at a0;by_cases hlt:k<N.length
  ·obtain ⟨t,ht⟩:∃n,N[k]? =some n:=⟨_,List.getElem?_eq_getElem hlt⟩;have u1:(k:Int)<(N.length:Int):=by omega
   have u3:(0:Int)≤(k:Int):=by omega
   obtain ⟨l12,l00,l1000,⟨gx,hgx⟩,okr⟩:=za HII t (List.mem_of_getElem? ht);obtain ⟨⟨gi,oi,rfl,hgi,q0,q1⟩,qI⟩:=(za HVI w (Below.refl _ _)) k t ht;have HTt:=hide ht;obtain ⟨td,ta,tcap,tI⟩:=t;simp only at l12 l00 l1000 hgx okr q0 q1 qI;subst hgx;have hb5:=(za HT5).bel;have hgw:gi<wr.heap.size:=Nat.lt_of_lt_of_le hgi hb5.size;have c0:=(hb5.cell (p:=⟨gi,_,none⟩) hgi).trans q0;have c1:=(hb5.cell (p:=⟨gi,_,none⟩) hgi).trans q1;have KB5:Hid ((∀W',Below wr.heap.size wr W'→W'.cell? ⟨w.heap.size,0,none⟩=some (.slice (some ⟨gi,oi,none⟩) N.length ic))∧(∀W',Below wr.heap.size wr W'→W'.cell? ⟨gi,oi+k*2,none⟩=some (.int .i64 td))∧(∀W',Below wr.heap.size wr W'→W'.cell? ⟨gi,oi+k*2+1,none⟩=some (.slice (some ⟨gx,0,none⟩) tI.length tcap))):=hide ⟨fun W' b=>((za HT5).call b).b1.cell 0,fun W' b=>(b.cell (p:=⟨gi,_,none⟩) hgw).trans c0,fun W' b=>(b.cell (p:=⟨gi,_,none⟩) hgw).trans c1⟩;have HX5:=hide (za HT5).b3
   have hXS:=(za HT5).xl.2;have hXW:=(za HT5).xl.1;have HIT:=hide (fun W (b:Below wr.heap.size wr W)=>WCopy5.zy4 gx 0 tcap tI l12 l00 l1000 okr W (Mem.zb9 qI (hb5.trans (b.mono hb5.size))));clear q0 q1 qI ht l12 l00 l1000 okr c0 c1;go_upto_region 5 with fail
   refine zy0 (R:=fun T0 T' W=>∃ (a':Option Addr) (c':Nat) (a7:Option Addr) (c7:Nat) (Js:List Pl.It) (X9 Hh:Nat),T'=(((((((((((((((((((T0).setIfInBounds 23 (.pointer (some ⟨X,0,none⟩))).setIfInBounds 24 (.slice ai k ci)).setIfInBounds 25 (.pointer (some ⟨w.heap.size,0,none⟩))).setIfInBounds 26 (.slice (some ⟨gi,oi,none⟩) N.length ic)).setIfInBounds 27 (.int .i64 (k:Int))).setIfInBounds 28 (.pointer (some ⟨gi,oi+k*2,none⟩))).setIfInBounds 29 (.pointer (some ⟨gi,oi+k*2,none⟩))).setIfInBounds 30 (.int .i64 td)).setIfInBounds 31 (.pointer (some ⟨w.heap.size,0,none⟩))).setIfInBounds 32 (.slice (some ⟨gi,oi,none⟩) N.length ic)).setIfInBounds 33 (.int .i64 (k:Int))).setIfInBounds 34 (.pointer (some ⟨gi,oi+k*2,none⟩))).setIfInBounds 35 (.pointer (some ⟨gi,oi+k*2+1,none⟩))).setIfInBounds 36 (.slice (some ⟨gx,0,none⟩) Js.length tcap)).setIfInBounds 37 (.slice a7 Js.length c7)).setIfInBounds 38 (.agg #[.int .i64 td, .slice a7 Js.length c7])).setIfInBounds 39 (.slice (some ⟨X9,0,none⟩) 1 1)).setIfInBounds 40 (.slice a' (k+1) c')).setIfInBounds 41 (.pointer (some ⟨X,0,none⟩))∧Ck w W X S1 (#[.slice (some ⟨gi,oi,none⟩) N.length ic, .slice (some ⟨gm,om,none⟩) M.length mc, .slice (some ⟨gh,oh,none⟩) H.length hc, .int .i64 next]) a b ca cb M H #[.slice a' (k+1) c', .slice a M.length ca, .slice b H.length cb, .int .i64 next]∧Mem.Iz W S1 (.slice a' (k+1) c') (Ds++[⟨td,a7,c7,Js⟩]) (Pl.upd lo Ds.length wr.heap.size) (Pl.upd hi Ds.length Hh)∧S1≤W.heap.size∧Js.map Pl.It.r=tI.map Pl.It.r) ?_ ?_
   ·refine wp_region_held_drew (S:=fun W'=>W'.cell? ⟨w.heap.size,0,none⟩=some (.slice (some ⟨gi,oi,none⟩) N.length ic)∧W'.cell? ⟨gi,oi+k*2,none⟩=some (.int .i64 td)∧W'.cell? ⟨gi,oi+k*2+1,none⟩=some (.slice (some ⟨gx,0,none⟩) tI.length tcap)) (by kernel_rfl) ?_ (fun hHeld=>?_)
    ·exact ⟨(za KB5).1 _ (bD _),(za KB5).2.1 _ (bD _),(za KB5).2.2 _ (bD _)⟩
    have b05:Below wr.heap.size wr wr.drew:=(Below.refl _ _).trans ⟨rfl,rfl,rfl,Nat.le_refl _,fun _ _=>rfl⟩;generalize wr.drew=D0 at hHeld b05 ⊢;refine TB 0 ?_;refine TB 2 ?_;refine TB 3 ?_;refine TB 4 ?_;refine TB 5 ?_;refine TB 6 ?_;refine TB 7 ?_;refine TB 8 ?_;refine TB 9 ?_;refine TB 10 ?_;refine TB 11 ?_;refine TB 12 ?_;refine TB 13 ?_
    apply meet5 (F:=fun W a7 c7 Js X=>∃Hh,R5 wr W td Hh (tI.map Pl.It.r) a7 c7 Js X)
    ·intro hEnd;refine wpAnyH_ready (rs:=[1,14]) (by kernel_rfl) (by simp) ?_;refine AllReadyH.cons rfl (fun K hK=>?_) (AllReadyH.cons rfl (fun K hK=>?_) (AllReadyH.nil))
     ·have x0:=((za HX5).call b05).cell 0;simp only [kGs] at x0;go_simp
      refine hK.out _ _ ?_ (fun hHeld=>?_)
      ·exact hHeld
      clear hK K
      try simp only [Act.put,kBs]
      clear x0;refine RN 14 fun K hK=>?_;go_simp
      refine (za HIT _ (b05)).mono ?_;rintro e D7 ⟨g7,c7,Js,rfl, -,io7,hr7,b7⟩;have HJL:Hid (tI.length=Js.length):=hide (by have :=congrArg List.length hr7;simpa using this.symm);rw [za HJL] at io7 ⊢;generalize (some (⟨g7,0,none⟩:Addr))=a7 at io7 ⊢;have b75:=b05.trans (b7.mono b05.size);have ib7:Mem.Ib D7 wr.heap.size D7.heap.size (.slice a7 Js.length c7) Js:=⟨io7.mono (b05).size,(Mem.Ib.of io7).h1,(Mem.Ib.of io7).h2⟩;refine hK.out _ _ ?_ (fun hHeld=>?_)
      ·exact ⟨(za KB5).1 _ (b75),(za KB5).2.1 _ (b75),(za KB5).2.2 _ (b75)⟩
      clear hK K
      try simp only [Act.put,kBs]
      clear b7 HJL;refine TB 15 ?_;refine RN 16 fun K hK=>?_;go_simp
      have bA9:Below D7.heap.size D7 (D7.alloc (.cells #[.int .i64 td, .slice a7 Js.length c7] 100)):=bE0;have b95:=b75.trans (bA9.mono b75.size);have hF:=(⟨b95,ib7.call bA9,by have :=(b75).size;omega,bA9.size,hr7,Mem.Blk.new _ _ _,Nat.le_refl _⟩:R5 wr (D7.alloc (.cells #[.int .i64 td, .slice a7 Js.length c7] 100)) td D7.heap.size (tI.map Pl.It.r) a7 c7 Js D7.heap.size);refine hK.out _ _ ?_ (fun hHeld=>?_)
      ·exact ⟨(za KB5).1 _ (b95),(za KB5).2.1 _ (b95),(za KB5).2.2 _ (b95)⟩
      clear hK K
      try simp only [Act.put,kBs]
      generalize D7.alloc (.cells #[.int .i64 td, .slice a7 Js.length c7] 100)=D9 at hHeld b95 hF ⊢;generalize hX9:D7.heap.size=X9 at hF ⊢;clear bA9 hX9;exact hEnd _ _ _ _ _ ⟨_,hF⟩
     ·go_simp
      refine (za HIT _ (b05)).mono ?_;rintro e D7 ⟨g7,c7,Js,rfl, -,io7,hr7,b7⟩;have HJL:Hid (tI.length=Js.length):=hide (by have :=congrArg List.length hr7;simpa using this.symm);rw [za HJL] at io7 ⊢;generalize (some (⟨g7,0,none⟩:Addr))=a7 at io7 ⊢;have b75:=b05.trans (b7.mono b05.size);have ib7:Mem.Ib D7 wr.heap.size D7.heap.size (.slice a7 Js.length c7) Js:=⟨io7.mono (b05).size,(Mem.Ib.of io7).h1,(Mem.Ib.of io7).h2⟩;refine hK.out _ _ ?_ (fun hHeld=>?_)
      ·exact ⟨(za KB5).1 _ (b75),(za KB5).2.1 _ (b75),(za KB5).2.2 _ (b75)⟩
      clear hK K
      try simp only [Act.put,kBs]
      clear b7 HJL;refine TB 15 ?_;refine wpAnyH_ready (rs:=[1,16]) (by kernel_rfl) (by simp) ?_;refine AllReadyH.cons rfl (fun K hK=>?_) (AllReadyH.cons rfl (fun K hK=>?_) (AllReadyH.nil))
      ·have x0:=((za HX5).call b75).cell 0;simp only [kGs] at x0;go_simp
       refine hK.out _ _ ?_ (fun hHeld=>?_)
       ·exact hHeld
       clear hK K
       try simp only [Act.put,kBs]
       clear x0;refine RN 16 fun K hK=>?_;go_simp
       have bA9:Below D7.heap.size D7 (D7.alloc (.cells #[.int .i64 td, .slice a7 Js.length c7] 100)):=bE0;have b95:=b75.trans (bA9.mono b75.size);have hF:=(⟨b95,ib7.call bA9,by have :=(b75).size;omega,bA9.size,hr7,Mem.Blk.new _ _ _,Nat.le_refl _⟩:R5 wr (D7.alloc (.cells #[.int .i64 td, .slice a7 Js.length c7] 100)) td D7.heap.size (tI.map Pl.It.r) a7 c7 Js D7.heap.size);refine hK.out _ _ ?_ (fun hHeld=>?_)
       ·exact ⟨(za KB5).1 _ (b95),(za KB5).2.1 _ (b95),(za KB5).2.2 _ (b95)⟩
       clear hK K
       try simp only [Act.put,kBs]
       generalize D7.alloc (.cells #[.int .i64 td, .slice a7 Js.length c7] 100)=D9 at hHeld b95 hF ⊢;generalize hX9:D7.heap.size=X9 at hF ⊢;clear bA9 hX9;exact hEnd _ _ _ _ _ ⟨_,hF⟩
      ·go_simp
       have bA9:Below D7.heap.size D7 (D7.alloc (.cells #[.int .i64 td, .slice a7 Js.length c7] 100)):=bE0;have b95:=b75.trans (bA9.mono b75.size);have hF:=(⟨b95,ib7.call bA9,by have :=(b75).size;omega,bA9.size,hr7,Mem.Blk.new _ _ _,Nat.le_refl _⟩:R5 wr (D7.alloc (.cells #[.int .i64 td, .slice a7 Js.length c7] 100)) td D7.heap.size (tI.map Pl.It.r) a7 c7 Js D7.heap.size);refine hK.out _ _ ?_ (fun hHeld=>?_)
       ·exact ⟨(za KB5).1 _ (b95),(za KB5).2.1 _ (b95),(za KB5).2.2 _ (b95)⟩
       clear hK K
       try simp only [Act.put,kBs]
       generalize D7.alloc (.cells #[.int .i64 td, .slice a7 Js.length c7] 100)=D9 at hHeld b95 hF ⊢;generalize hX9:D7.heap.size=X9 at hF ⊢;clear bA9 hX9;refine RN 1 fun K hK=>?_;have x0:=((za HX5).call b95).cell 0;simp only [kGs] at x0;go_simp
       refine hK.out _ _ ?_ (fun hHeld=>?_)
       ·exact hHeld
       clear hK K
       try simp only [Act.put,kBs]
       clear x0;exact hEnd _ _ _ _ _ ⟨_,hF⟩
    ·intro W a7 c7 Js X9 ⟨Hh,hF⟩;have hHeld:=(⟨(za KB5).1 _ (hF.bel),(za KB5).2.1 _ (hF.bel),(za KB5).2.2 _ (hF.bel)⟩:(fun W'=>W'.cell? ⟨w.heap.size,0,none⟩=some (.slice (some ⟨gi,oi,none⟩) N.length ic)∧W'.cell? ⟨gi,oi+k*2,none⟩=some (.int .i64 td)∧W'.cell? ⟨gi,oi+k*2+1,none⟩=some (.slice (some ⟨gx,0,none⟩) tI.length tcap)) W);have iz:=(za HIZ5).call hF.bel;have x0:=hF.blk.cell 0;have x1:=hF.blk.cell 1;simp only [kGs] at x0 x1;refine RN 17 fun K hK=>?_;refine Mem.za6 rfl _ _ 28 rfl S1 100 i0 _ 2 32 Tryz.underlying28 hi0 hz0 hz1 hz2 rfl (by decide) (.slice ai k ci) k (Pl.zh5 Ds) rfl (by have h:=iz.row;rw [za HDL] at h;exact h) (some ⟨X9,0,none⟩) 1 1 [.int .i64 td, .slice a7 Js.length c7] rfl rfl (.inl ⟨_,rfl,fun j u hj=>?_⟩) (by simp [Value.oneCell']) (by unfold maxLen;omega) (by omega) (by have :=hF.bel.size;omega) ?_
     ·match j,hj with
      |0,hj=>cases hj;exact x0
      |1,hj=>cases hj;exact x1
      |j+2,hj=>simp at hj
     intro v' wB ownB grB farB;obtain ⟨a',c',rfl⟩:=Mem.za7 ownB;have hrow:=fun b (hb:(Value.slice ai k ci).ownBlock=some b)=>World.ownsRow.lt (za HIZ5).row b hb
     have izB:Mem.Iz wB S1 (.slice a' (k+1) c') (Ds++[⟨td,a7,c7,Js⟩]) (Pl.upd lo Ds.length wr.heap.size) (Pl.upd hi Ds.length Hh):=by
      refine iz.app (x:=⟨td,a7,c7,Js⟩) hF.ib hS5 hF.le (fun j hj=>?_) (fun g hg=>(hrow g hg).2) hF.hs ?_ grB farB
      ·obtain ⟨y,hy⟩:∃y,Ds[j]? =some y:=⟨_,List.getElem?_eq_getElem hj⟩;exact ((za HIZ5).each j y hy).2.2.2.1
      ·rw [za HDL];exact ownB
     have tkB:=((za HT5).call hF.bel).grown grB (fun b hb=>(hrow b hb).1);have KBB:(fun W'=>W'.cell? ⟨w.heap.size,0,none⟩=some (.slice (some ⟨gi,oi,none⟩) N.length ic)∧W'.cell? ⟨gi,oi+k*2,none⟩=some (.int .i64 td)∧W'.cell? ⟨gi,oi+k*2+1,none⟩=some (.slice (some ⟨gx,0,none⟩) tI.length tcap)) wB:=⟨tkB.b1.cell 0,grB.cell hHeld.2.1 (fun e=>by have :=(hrow gi e.symm).1;omega),grB.cell hHeld.2.2 (fun e=>by have :=(hrow gi e.symm).1;omega)⟩;refine hK.out _ _ ?_ (fun hHeld=>?_)
     ·exact KBB
     clear hK K
     try simp only [Act.put,kBs]
     refine TB 18 ?_;have d0:=tkB.b3.cell 0;have f0:=tkB.b3.fr 0;simp only [kGs] at d0;have tkC:=hide (tkB.put 0 (.slice a' (k+1) c'));refine RN 19 fun K hK=>?_;go_simp
     refine hK.out _ _ ?_ (fun hHeld=>?_)
     ·exact ⟨(za tkC).b1.cell 0,(World.cell?_setCell_other _ _ _ _ (by intro e;have :=congrArg Addr.block e;simp only at this;omega)).trans KBB.2.1,(World.cell?_setCell_other _ _ _ _ (by intro e;have :=congrArg Addr.block e;simp only at this;omega)).trans KBB.2.2⟩
     clear hK K
     try simp only [Act.put,kBs]
     refine wpAnyH_done (by kernel_rfl) ?_ _;refine ⟨rfl,rfl,a',c',a7,c7,Js,X9,Hh,?_,za tkC,izB.far 0 _ hXS,by rw [World.size_setCell];have :=grB.size;have :=hF.bel.size;omega,hF.reads⟩;simp only [kB3,kB4,kB5]
   rintro T' wM ⟨a',c',a7,c7,Js,X9,Hh,hT',tkM,izM,hsM,hrM⟩;simp only [kB3,kB4,kB5] at hT';subst hT'
   have HR2:Hid ((Ds++[(⟨td,a7,c7,Js⟩:Pl.Ns)]).map Pl.Ns.r=(N.map Pl.Ns.r).take (k+1)):=hide (by
    rw [List.map_append,za HDR,List.take_add_one,List.getElem?_map,za HTt]
    simp [Pl.Ns.r,hrM])
   have HD2:Hid ((Ds++[(⟨td,a7,c7,Js⟩:Pl.Ns)]).length=k+1):=hide (by rw [List.length_append,za HDL];rfl);have KM:=hide tkM;have IM:=hide izM;clear tkM izM hrM HIT KB5 HX5 HT5 HIZ5 HDR HDL HTt hb5 a0;go_wp2
   go_roundw
   case rel=>exact ⟨k+1,a',c',_,_,_,by omega,by go_num,KM,IM,HD2,HR2,hsM⟩
   case measure=>simp [intOf];omega
  ·have u1:¬ (k:Int)<(N.length:Int):=by omega
   have hke:k=N.length:=by omega
   subst hke;have HR0:Hid (Ds.map Pl.Ns.r=N.map Pl.Ns.r):=hide (by rw [za HDR,List.take_of_length_le (by simp)]);have b5:=(za HT5).bel;have hxl:=(za HT5).xl;have hM2:=(za HT5).hm;have hH2:=(za HT5).hh;have hne:=(za HT5).ne;have bF:Below w.heap.size w ((((wr.setCell ⟨w.heap.size+1,0,none⟩ (.slice ai N.length ci)).setCell ⟨w.heap.size+1,1,none⟩ (.slice a M.length ca)).setCell ⟨w.heap.size+1,2,none⟩ (.slice b H.length cb)).setCell ⟨w.heap.size+1,3,none⟩ (.int .i64 next)):=(((b5.setCell (by show w.heap.size≤w.heap.size+1;omega) _).setCell (by show w.heap.size≤w.heap.size+1;omega) _).setCell (by show w.heap.size≤w.heap.size+1;omega) _).setCell (by show w.heap.size≤w.heap.size+1;omega) _
   have izF:Mem.Iz ((((wr.setCell ⟨w.heap.size+1,0,none⟩ (.slice ai N.length ci)).setCell ⟨w.heap.size+1,1,none⟩ (.slice a M.length ca)).setCell ⟨w.heap.size+1,2,none⟩ (.slice b H.length cb)).setCell ⟨w.heap.size+1,3,none⟩ (.int .i64 next)) S1 (.slice ai N.length ci) Ds lo hi:=((((za HIZ5).far (Y:=w.heap.size+1) 0 _ (by omega)).far (Y:=w.heap.size+1) 1 _ (by omega)).far (Y:=w.heap.size+1) 2 _ (by omega)).far (Y:=w.heap.size+1) 3 _ (by omega);have nm:∀g,(Value.slice a M.length ca).ownBlock=some g→w.heap.size+1≠g:=fun g hg=>by have :=(Mem.zb (za HT5).om g hg).1;omega
   have nh:∀g,(Value.slice b H.length cb).ownBlock=some g→w.heap.size+1≠g:=fun g hg=>by have :=(Mem.zb (za HT5).oh g hg).1;omega
   have omF:=Mem.zb2 (Mem.zb2 (Mem.zb2 (Mem.zb2 (Mem.zl8 (za HT5).om (show w.heap.size≤w.heap.size+2 by omega)) ⟨w.heap.size+1,0,none⟩ (.slice ai N.length ci) nm) ⟨w.heap.size+1,1,none⟩ (.slice a M.length ca) nm) ⟨w.heap.size+1,2,none⟩ (.slice b H.length cb) nm) ⟨w.heap.size+1,3,none⟩ (.int .i64 next) nm;have ohF:=Mem.zb2 (Mem.zb2 (Mem.zb2 (Mem.zb2 (Mem.zl8 (za HT5).oh (show w.heap.size≤w.heap.size+2 by omega)) ⟨w.heap.size+1,0,none⟩ (.slice ai N.length ci) nh) ⟨w.heap.size+1,1,none⟩ (.slice a M.length ca) nh) ⟨w.heap.size+1,2,none⟩ (.slice b H.length cb) nh) ⟨w.heap.size+1,3,none⟩ (.int .i64 next) nh;have x0:=(za HT5).b3.cell 0;have x1:=(za HT5).b3.cell 1;have x2:=(za HT5).b3.cell 2;have x3:=(za HT5).b3.cell 3;have d0:=(za HT5).b2.cell 0;have d1:=(za HT5).b2.cell 1;have d2:=(za HT5).b2.cell 2;have d3:=(za HT5).b2.cell 3;have f0:=(za HT5).b2.fr 0;have f1:=(za HT5).b2.fr 1
   have f2:=(za HT5).b2.fr 2;have f3:=(za HT5).b2.fr 3;simp only [kGs] at x0 x1 x2 x3 d0 d1 d2 d3;have BF:=hide bF;have IF:=hide izF;have OF:=hide omF;have HF:=hide ohF;clear bF izF omF ohF HT5 HIZ5 b5 HVI HII nm nh hxl;go_wp2
   refine bodyPost_ret (v:= .agg #[.slice ai N.length ci, .slice a M.length ca, .slice b H.length cb, .int .i64 next]) (by simp [results,Tryz.results28,go_sem,d0,d1,d2,d3]) rfl ⟨⟨⟨ai,ci,Ds,a,ca,M,b,cb,H,next⟩,by simp only;rw [za HDL],S1,lo,hi,⟨za HR0,rfl,rfl,rfl,hw1,by rw [za HDL];exact za IF,za OF,za HF,fun g hg=>(hM2 g hg).1,fun g hg=>(hH2 g hg).1,hne⟩⟩,za BF⟩
end WCp8
end Go.Proofs.YtkighhofjmginaaGreatDoor
