import Derived.Test.YthdhhcgopfgcbaaGreatDoorG02
namespace Go.Proofs.YthdhhcgopfgcbaaGreatDoor
open Go.RowKit Go.Shelf
attribute [local go_sem] Oper.semAt_some
namespace Pl
def zo4 (Ls:List (List Nd)) (s:Sg) (ps:List ByteArray):Sg:=ps.foldl (fun s p=>decS (nsOf s.have' Ls p)) s
def zc3 (Ls:List (List Nd)) (p:ByteArray):Sg:=zo4 Ls (zt3 Ls.length) (ways (zb p) (zb p).length)
theorem yc7 (Ls:List (List Nd)) (s:Sg) (ps:List ByteArray) (p:ByteArray):zo4 Ls s (ps++[p])=decS (nsOf (zo4 Ls s ps).have' Ls p):=by simp [zo4]
theorem walk_len (Ls:List (List Nd)) (n:Nat):∀ps:List ByteArray,(zo4 Ls (zt3 n) ps).have'.length=4:=by
 intro ps
 rcases List.eq_nil_or_concat ps with rfl |⟨qs,q,rfl⟩
 ·rfl
 ·rw [List.concat_eq_append,yc7];exact dec_len _
end Pl
namespace zk1
structure On (w W:World) (X:Nat) (v:Value) (FT:TypeId) (s:Pl.Sg):Prop where
 bel:Below w.heap.size w W
 res:Mem.Blk W w.heap.size Pl.Sg.zero.cs.toArray 232
 box:Mem.Blk W (w.heap.size+1) #[v] 182
 fn:Mem.Blk W (w.heap.size+1+1) #[.func (.func 173) #[] #[.pointer (some ⟨w.heap.size+1,0,none⟩)]] FT
 seen:Mem.Blk W X s.cs.toArray 232
 len:s.have'.length=4
 at_:w.heap.size+1+1<X
theorem ye5 {W W':World} {j:Nat} {cs:Array Value} {T:TypeId} {row:Option Nat} (h:Mem.Blk W j cs T) (g:W.grownBy W' row) (hr:∀r,row=some r→∃o:Obj,W.heap[r]? =some o∧o.isCells=false):Mem.Blk W' j cs T:=
 h.grown g (fun e=>by
  obtain ⟨o,ho,hc⟩:=hr j e.symm;have h2:W.heap[j]? =some (.cells cs T (0,0)):=h;rw [h2] at ho;cases ho
  cases hc)
theorem On.own {w W W':World} {X:Nat} {v:Value} {FT:TypeId} {s:Pl.Sg} {row:Option Nat} {B:Nat} (h:On w W X v FT s) (g:W.grownBy W' row) (hB:w.heap.size≤B) (hr:∀r,row=some r→B≤r∧∃o:Obj,W.heap[r]? =some o∧o.isCells=false):On w W' X v FT s:=
 ⟨h.bel.grown g h.bel.size (fun q hq=>Nat.le_trans hB (hr q hq).1),ye5 h.res g (fun r e=>(hr r e).2),ye5 h.box g (fun r e=>(hr r e).2),ye5 h.fn g (fun r e=>(hr r e).2),ye5 h.seen g (fun r e=>(hr r e).2),h.len,h.at_⟩
theorem On.call {w W W':World} {X:Nat} {v:Value} {FT:TypeId} {s:Pl.Sg} (h:On w W X v FT s) (b:Below W.heap.size W W'):On w W' X v FT s:=
 ⟨h.bel.trans (b.mono h.bel.size),h.res.call b,h.box.call b,h.fn.call b,h.seen.call b,h.len,h.at_⟩
set_option maxRecDepth 100000 in
theorem on_step {w W w2:World} {X:Nat} {v:Value} {FT:TypeId} (st:Bool) (sn:Pl.Nd) (e0 e1 e2 e3:Bool) (h:On w W X v FT ⟨st,sn,[e0,e1,e2,e3]⟩) (b:Below W.heap.size W w2) (ut:Bool) (up:ByteArray) (uk:Int) (ud:ByteArray) (un um:Int) (v0 v1 v2 v3:Bool):
  On w ((((((((((w2.setCell ⟨X,0,none⟩ (.bool ut)).setCell ⟨X,1,none⟩ (.string up)).setCell ⟨X,2,none⟩ (.int .i64 uk)).setCell ⟨X,3,none⟩ (.string ud)).setCell ⟨X,4,none⟩ (.int .i64 un)).setCell ⟨X,5,none⟩ (.int .i64 um)).setCell ⟨X,6,none⟩ (.bool v0)).setCell ⟨X,7,none⟩ (.bool v1)).setCell ⟨X,8,none⟩ (.bool v2)).setCell ⟨X,9,none⟩ (.bool v3)) X v FT ⟨ut,⟨up,uk,ud,un,um⟩,[v0,v1,v2,v3]⟩∧KeepsOthers W ((((((((((w2.setCell ⟨X,0,none⟩ (.bool ut)).setCell ⟨X,1,none⟩ (.string up)).setCell ⟨X,2,none⟩ (.int .i64 uk)).setCell ⟨X,3,none⟩ (.string ud)).setCell ⟨X,4,none⟩ (.int .i64 un)).setCell ⟨X,5,none⟩ (.int .i64 um)).setCell ⟨X,6,none⟩ (.bool v0)).setCell ⟨X,7,none⟩ (.bool v1)).setCell ⟨X,8,none⟩ (.bool v2)).setCell ⟨X,9,none⟩ (.bool v3))∧zk2.KC X W ((((((((((w2.setCell ⟨X,0,none⟩ (.bool ut)).setCell ⟨X,1,none⟩ (.string up)).setCell ⟨X,2,none⟩ (.int .i64 uk)).setCell ⟨X,3,none⟩ (.string ud)).setCell ⟨X,4,none⟩ (.int .i64 un)).setCell ⟨X,5,none⟩ (.int .i64 um)).setCell ⟨X,6,none⟩ (.bool v0)).setCell ⟨X,7,none⟩ (.bool v1)).setCell ⟨X,8,none⟩ (.bool v2)).setCell ⟨X,9,none⟩ (.bool v3)):=by
 have G:W.grownBy ((((((((((w2.setCell ⟨X,0,none⟩ (.bool ut)).setCell ⟨X,1,none⟩ (.string up)).setCell ⟨X,2,none⟩ (.int .i64 uk)).setCell ⟨X,3,none⟩ (.string ud)).setCell ⟨X,4,none⟩ (.int .i64 un)).setCell ⟨X,5,none⟩ (.int .i64 um)).setCell ⟨X,6,none⟩ (.bool v0)).setCell ⟨X,7,none⟩ (.bool v1)).setCell ⟨X,8,none⟩ (.bool v2)).setCell ⟨X,9,none⟩ (.bool v3)) (some X):=(zd3 (zd3 (zd3 (zd3 (zd3 (zd3 (zd3 (zd3 (zd3 (zd3 (Mem.zc7 b (some X)) 0 (.bool ut)) 1 (.string up)) 2 (.int .i64 uk)) 3 (.string ud)) 4 (.int .i64 un)) 5 (.int .i64 um)) 6 (.bool v0)) 7 (.bool v1)) 8 (.bool v2)) 9 (.bool v3))
 have S:Mem.Blk ((((((((((w2.setCell ⟨X,0,none⟩ (.bool ut)).setCell ⟨X,1,none⟩ (.string up)).setCell ⟨X,2,none⟩ (.int .i64 uk)).setCell ⟨X,3,none⟩ (.string ud)).setCell ⟨X,4,none⟩ (.int .i64 un)).setCell ⟨X,5,none⟩ (.int .i64 um)).setCell ⟨X,6,none⟩ (.bool v0)).setCell ⟨X,7,none⟩ (.bool v1)).setCell ⟨X,8,none⟩ (.bool v2)).setCell ⟨X,9,none⟩ (.bool v3)) X (Pl.Sg.cs ⟨ut,⟨up,uk,ud,un,um⟩,[v0,v1,v2,v3]⟩).toArray 232:=by
  have h2:=(((((((((((h.seen.call b).put 0 (.bool ut)).put 1 (.string up)).put 2 (.int .i64 uk)).put 3 (.string ud)).put 4 (.int .i64 un)).put 5 (.int .i64 um)).put 6 (.bool v0)).put 7 (.bool v1)).put 8 (.bool v2)).put 9 (.bool v3));simp only [kB3] at h2;exact h2
 have hX:=h.at_;have hs:W.heap[X]? =some (.cells (Pl.Sg.cs ⟨st,sn,[e0,e1,e2,e3]⟩).toArray 232 (0,0)):=h.seen;generalize ((((((((((w2.setCell ⟨X,0,none⟩ (.bool ut)).setCell ⟨X,1,none⟩ (.string up)).setCell ⟨X,2,none⟩ (.int .i64 uk)).setCell ⟨X,3,none⟩ (.string ud)).setCell ⟨X,4,none⟩ (.int .i64 un)).setCell ⟨X,5,none⟩ (.int .i64 um)).setCell ⟨X,6,none⟩ (.bool v0)).setCell ⟨X,7,none⟩ (.bool v1)).setCell ⟨X,8,none⟩ (.bool v2)).setCell ⟨X,9,none⟩ (.bool v3))=W2 at G S ⊢;refine ⟨⟨h.bel.grown G h.bel.size (fun q hq=>by cases hq;omega),h.res.grown G (fun e=>by have :=Option.some.inj e;omega),h.box.grown G (fun e=>by have :=Option.some.inj e;omega),h.fn.grown G (fun e=>by have :=Option.some.inj e;omega),S,rfl,hX⟩,?_,?_⟩
 ·exact KeepsOthers.of_grownBy G (fun j o e ho=>by cases e;rw [hs] at ho;cases ho;rfl)
 ·exact ⟨G.size,fun j o hj ho _=>(G.block j (Array.getElem?_eq_some_iff.1 ho).1 (fun e=>hj (Option.some.inj e))).trans ho⟩
set_option linter.unusedSimpArgs false in
set_option maxRecDepth 100000 in
set_option maxHeartbeats 4000000 in
theorem seen_any (B:Nat) (v:Value) (Bs:List Nat) (Ls:List (List Pl.Nd)) (p:ByteArray) (w:World) (hov:zh9.Ov w B v Bs Ls) (h4:Ls.length≤4) (htr:∀L∈Ls,Pl.za5 L=true) (hp:p.size≤1048576):
  Calls Tryz.prog 169 #[v, .string p] w fun e w'=>e= .returned (.agg (Pl.zc3 Ls p).cs.toArray)∧Below w.heap.size w w':=by
 obtain ⟨a,cap,rfl⟩:=zt6 hov;have HDE:=hide (fun (W:World) (b:Below w.heap.size w W) (x:ByteArray) (a0 a1 a2 a3:Bool) (hq:W.cell? ⟨w.heap.size+1,0,none⟩=some (.slice a Ls.length cap)) (hl:w.heap.size+1<W.heap.size) (hx:x.size≤1048576)=>dec_any ⟨w.heap.size+1,0,none⟩ x a0 a1 a2 a3 B (.slice a Ls.length cap) Bs Ls W hq hl (hov.call b) h4 htr hx);have ES:Hid (Pl.zc3 Ls p=Pl.zo4 Ls (Pl.zt3 Ls.length) (Pl.ways (Pl.zb p) (Pl.zb p).length)):=rfl;generalize Pl.zc3 Ls p=R at ES ⊢;have HRO:=hide (fun W=>root_any a Ls.length cap W h4);have HWL:=hide (fun ps=>Pl.walk_len Ls Ls.length ps);have HWS:=hide (fun ps q=>Pl.yc7 Ls (Pl.zt3 Ls.length) ps q);obtain ⟨g0,g1,g2,g3,hrt⟩:∃g0 g1 g2 g3,Pl.zt3 Ls.length=⟨false,Pl.za6,[g0,g1,g2,g3]⟩:=⟨_,_,_,_,rfl⟩;rw [hrt] at HRO ES HWL HWS;have HL0:=hide (za HWL [])
 rw [show (Pl.Sg.cs ⟨false,Pl.za6,[g0,g1,g2,g3]⟩).toArray=#[.bool false, .string ⟨#[]⟩, .int .i64 0, .string ⟨#[]⟩, .int .i64 0, .int .i64 0, .bool g0, .bool g1, .bool g2, .bool g3] from rfl] at HRO;clear hrt;refine (callsIn_wide (n:=3)).1 ?_;refine callsIn_of_wp_marks Tryz.func169 rfl trivial ?_ rfl;simp only [Tryz.ntmps169,List.size_toArray,List.length_cons,List.length_nil,Nat.reduceAdd,Nat.reduceSub,Array.replicate_succ,Array.replicate_zero,List.push_toArray,List.append_toArray,List.nil_append,List.cons_append]
 gi_wp2_with fail
 refine ⟨trivial,?_⟩;refine (callsIn_wide.2 (dec_make a Ls.length cap _)).mono ?_;rintro e w1 ⟨rfl,hw1⟩;rw [show (w.alloc (.cells #[.bool false, .string ⟨#[]⟩, .int .i64 0, .string ⟨#[]⟩, .int .i64 0, .int .i64 0, .bool false, .bool false, .bool false, .bool false] 232)).heap.size=w.heap.size+1 by simp];have z1:w1.heap.size=w.heap.size+1+1:=by rw [hw1];simp
 have b1:Below w.heap.size w w1:=by rw [hw1];exact (bE0).alloc (by simp) _
 have R1:Mem.Blk w1 w.heap.size Pl.Sg.zero.cs.toArray 232:=by rw [hw1];exact (Mem.Blk.new _ _ _).alloc _
 have O1:Mem.Blk w1 (w.heap.size+1) #[.slice a Ls.length cap] 182:=by rw [hw1];exact Mem.zg4 _ _ _
 have Z1:=hide z1;clear hw1 z1
 gi_wp2_with fail
 refine ⟨trivial,?_⟩;have hz1:=za Z1;have F2:Mem.Blk (w1.alloc (.cells #[.func (.func 173) #[] #[.pointer (some ⟨w.heap.size+1,0,none⟩)]] 237)) w1.heap.size #[.func (.func 173) #[] #[.pointer (some ⟨w.heap.size+1,0,none⟩)]] 237:=Mem.Blk.new _ _ _;have b2:=b1.alloc b1.size (.cells #[.func (.func 173) #[] #[.pointer (some ⟨w.heap.size+1,0,none⟩)]] 237);have R2:=R1.alloc (.cells #[.func (.func 173) #[] #[.pointer (some ⟨w.heap.size+1,0,none⟩)]] 237);have O2:=O1.alloc (.cells #[.func (.func 173) #[] #[.pointer (some ⟨w.heap.size+1,0,none⟩)]] 237);rw [za Z1] at F2
 refine (callsIn_wide.2 (za HRO _)).mono ?_;rintro e w3 ⟨rfl,b3⟩;have X3:w.heap.size+1+1<w3.heap.size:=by have :=b3.size;simp at this;omega
 have O3:Hid (On w (w3.alloc (.cells #[.bool false, .string ⟨#[]⟩, .int .i64 0, .string ⟨#[]⟩, .int .i64 0, .int .i64 0, .bool g0, .bool g1, .bool g2, .bool g3] 232)) w3.heap.size (.slice a Ls.length cap) 237 (Pl.zo4 Ls ⟨false,Pl.za6,[g0,g1,g2,g3]⟩ [])):=
  ⟨(b2.trans (b3.mono b2.size)).alloc (b2.trans (b3.mono b2.size)).size _,(R2.call b3).alloc _,(O2.call b3).alloc _,(F2.call b3).alloc _,Mem.Blk.new _ _ _,rfl,X3⟩
 clear b1 R1 O1 b2 R2 O2 F2 b3 hz1;have Z3:Hid (w1.heap.size=w.heap.size+1+1):=Z1
 gi_wp2_with fail
 refine ⟨trivial,?_⟩;refine (callsIn_wide.2 (zk2.paths_any p _)).mono ?_;rintro e w5 ⟨rfl,hw5⟩;rw [show (w3.alloc (.cells #[.bool false, .string ⟨#[]⟩, .int .i64 0, .string ⟨#[]⟩, .int .i64 0, .int .i64 0, .bool g0, .bool g1, .bool g2, .bool g3] 232)).heap.size=w3.heap.size+1 by simp];have O5:Hid (On w w5 w3.heap.size (.slice a Ls.length cap) 237 (Pl.zo4 Ls ⟨false,Pl.za6,[g0,g1,g2,g3]⟩ [])):=by rw [hw5];exact (za O3).call (bE0)
 have P5:Mem.Blk w5 (w3.heap.size+1) #[.string p] 9:=by rw [hw5];exact Mem.zg4 _ _ _
 have z5:w5.heap.size=w3.heap.size+1+1:=by rw [hw5];simp
 have q5:=P5.cell 0;simp only [kA0,kA1] at q5;have Q5:=hide q5;have Z5:=hide z5;clear hw5 O3 P5 q5 z5;generalize w3.heap.size=X at O5 Q5 Z5 X3 ⊢
 gi_wp2_with fail
 rw [za Z1]
 refine wpIn_rangeFunc_ownF rfl (by omega) (gf:=135) (lb:=#[.pointer (some ⟨X+1,0,none⟩)]) rfl trivial (enters_of Tryz.func135 (by kernel_rfl) rfl)
  (zk2.iter_stops 2 X ⟨X+1,0,none⟩ p w5 (by rw [za Z5];omega) (za Q5) (by show X+1<_;rw [za Z5];omega) hp) zk2.KC.trans (fun W l o o' _ hl ho _=>zk2.KC.put W o o' hl ho) (Below.refl _ _) (fun _=>rfl)
  (fun (pre:List zk2.Small) W=>On w W X (.slice a Ls.length cap) 237 (Pl.zo4 Ls ⟨false,Pl.za6,[g0,g1,g2,g3]⟩ (pre.map Subtype.val)))
  (fun _ _ _=>False)
  (fun s A A' row hs hg hr=>On.own hs hg (za O5).bel.size hr)
  (fun _ _ _ _ _ hs _ _=>hs)
  (za O5)
  (fun x=>{ tmps:=#[.slice a Ls.length cap, .string p,undef,undef, .pointer (some ⟨w.heap.size,0,none⟩), .pointer (some ⟨w.heap.size+1+1,0,none⟩), .pointer (some ⟨X,0,none⟩), .string x.1, .slice a Ls.length cap, .func (.func 173) #[] #[.pointer (some ⟨w.heap.size+1,0,none⟩)], .slice a Ls.length cap, .agg #[.bool false, .string ⟨#[]⟩, .int .i64 0, .string ⟨#[]⟩, .int .i64 0, .int .i64 0, .bool g0, .bool g1, .bool g2, .bool g3], .string p, .func (.func 135) #[] #[.pointer (some ⟨X+1,0,none⟩)], .string x.1,undef,undef,undef,undef,undef,undef],defers:=[] }) ?assign ?body ?done ?stop
 case assign=>
  intro l x W K hK
  gi_wp2
  exact hK
 case body=>
  rintro l pre ⟨x,hx⟩ W hI _;have HS:=hide (za HWS (pre.map Subtype.val) x);have HM:Hid ((pre++[(⟨x,hx⟩:zk2.Small)]).map Subtype.val=pre.map Subtype.val++[x]):=by rw [List.map_append];exact rfl
  generalize Pl.zo4 Ls ⟨false,Pl.za6,[g0,g1,g2,g3]⟩ (pre.map Subtype.val)=s at hI HS;obtain ⟨tt,sn,sh⟩:=s
  obtain ⟨e0,e1,e2,e3,rfl⟩:∃h0 h1 h2 h3,sh=[h0,h1,h2,h3]:=by
   match sh,hI.len with
   | [a,b,c,d],_=>exact ⟨a,b,c,d,rfl⟩
  have hd:=hide (za HDE W hI.bel x e0 e1 e2 e3 (by have :=hI.box.cell 0;simpa using this) hI.box.lt (by omega));have HU4:=hide (Pl.dec_len (Pl.nsOf [e0,e1,e2,e3] Ls x));simp only at HS;generalize Pl.decS (Pl.nsOf [e0,e1,e2,e3] Ls x)=U at hd HU4 HS;obtain ⟨ut,⟨up,uk,ud,un,um⟩,uh⟩:=U
  obtain ⟨v0,v1,v2,v3,rfl⟩:∃h0 h1 h2 h3,uh=[h0,h1,h2,h3]:=by
   match uh,za HU4 with
   | [a,b,c,d],_=>exact ⟨a,b,c,d,rfl⟩
  rw [show (Pl.Sg.cs ⟨ut,⟨up,uk,ud,un,um⟩,[v0,v1,v2,v3]⟩).toArray=#[.bool ut, .string up, .int .i64 uk, .string ud, .int .i64 un, .int .i64 um, .bool v0, .bool v1, .bool v2, .bool v3] from rfl] at hd;have k0:=hI.fn.cell 0;have c6:=hI.seen.cell 6;have c7:=hI.seen.cell 7;have c8:=hI.seen.cell 8;have c9:=hI.seen.cell 9;simp only [Pl.Sg.cs,List.map_cons,List.map_nil,List.cons_append,List.nil_append,kGs] at k0 c6 c7 c8 c9;have KI:=hide hI;clear hI HU4
  gi_wp2_with fail
  refine ⟨trivial,?_⟩;refine (CallsIn.inRound l (callsIn_wide.2 (za hd))).mono ?_;rintro e w2 ⟨rfl,b2⟩;have ST:=hide (on_step tt sn e0 e1 e2 e3 (za KI) b2 ut up uk ud un um v0 v1 v2 v3);clear hd c6 c7 c8 c9 k0;have S2:=(za KI).seen.call b2;have c0:=S2.cell 0;have f0:=S2.fr 0;have c1:=S2.cell 1;have f1:=S2.fr 1;have c2:=S2.cell 2;have f2:=S2.fr 2;have c3:=S2.cell 3;have f3:=S2.fr 3;have c4:=S2.cell 4;have f4:=S2.fr 4;have c5:=S2.cell 5;have f5:=S2.fr 5;have c6:=S2.cell 6;have f6:=S2.fr 6;have c7:=S2.cell 7;have f7:=S2.fr 7;have c8:=S2.cell 8;have f8:=S2.fr 8;have c9:=S2.cell 9;have f9:=S2.fr 9;simp only [Pl.Sg.cs,List.map_cons,List.map_nil,List.cons_append,List.nil_append,kGs] at c0 c1 c2 c3 c4 c5 c6 c7 c8 c9;clear S2 KI b2
  gi_wp2
  exact ⟨(za ST).2.1,(za ST).2.2,by
   have h:=(za ST).1;rw [←za HS,←za HM] at h
   exact h⟩
 case done=>
  rintro D ys W hD hy hI hK;rw [hy,←za ES] at hI;have hlen:=hI.len;obtain ⟨ut,⟨up,uk,ud,un,um⟩,uh⟩:=R
  obtain ⟨v0,v1,v2,v3,rfl⟩:∃h0 h1 h2 h3,uh=[h0,h1,h2,h3]:=by
   match uh,hlen with
   | [a,b,c,d],_=>exact ⟨a,b,c,d,rfl⟩
  have c0:=hI.seen.cell 0;have d0:=hI.res.cell 0;have f0:=hI.res.fr 0;have c1:=hI.seen.cell 1;have d1:=hI.res.cell 1;have f1:=hI.res.fr 1;have c2:=hI.seen.cell 2;have d2:=hI.res.cell 2;have f2:=hI.res.fr 2;have c3:=hI.seen.cell 3;have d3:=hI.res.cell 3;have f3:=hI.res.fr 3;have c4:=hI.seen.cell 4;have d4:=hI.res.cell 4;have f4:=hI.res.fr 4;have c5:=hI.seen.cell 5;have d5:=hI.res.cell 5;have f5:=hI.res.fr 5;have c6:=hI.seen.cell 6;have d6:=hI.res.cell 6;have f6:=hI.res.fr 6;have c7:=hI.seen.cell 7;have d7:=hI.res.cell 7;have f7:=hI.res.fr 7;have c8:=hI.seen.cell 8;have d8:=hI.res.cell 8;have f8:=hI.res.fr 8;have c9:=hI.seen.cell 9;have d9:=hI.res.cell 9;have f9:=hI.res.fr 9;simp only [Pl.Sg.zero,Pl.za6,Pl.Sg.cs,List.map_cons,List.map_nil,List.cons_append,List.nil_append,kGs] at c0 c1 c2 c3 c4 c5 c6 c7 c8 c9 d0 d1 d2 d3 d4 d5 d6 d7 d8 d9
  have S9:Mem.Blk ((((((((((W.setCell ⟨w.heap.size,0,none⟩ (.bool ut)).setCell ⟨w.heap.size,1,none⟩ (.string up)).setCell ⟨w.heap.size,2,none⟩ (.int .i64 uk)).setCell ⟨w.heap.size,3,none⟩ (.string ud)).setCell ⟨w.heap.size,4,none⟩ (.int .i64 un)).setCell ⟨w.heap.size,5,none⟩ (.int .i64 um)).setCell ⟨w.heap.size,6,none⟩ (.bool v0)).setCell ⟨w.heap.size,7,none⟩ (.bool v1)).setCell ⟨w.heap.size,8,none⟩ (.bool v2)).setCell ⟨w.heap.size,9,none⟩ (.bool v3)) w.heap.size #[.bool ut, .string up, .int .i64 uk, .string ud, .int .i64 un, .int .i64 um, .bool v0, .bool v1, .bool v2, .bool v3] 232:=by
   have h2:=((((((((((hI.res.put 0 (.bool ut)).put 1 (.string up)).put 2 (.int .i64 uk)).put 3 (.string ud)).put 4 (.int .i64 un)).put 5 (.int .i64 um)).put 6 (.bool v0)).put 7 (.bool v1)).put 8 (.bool v2)).put 9 (.bool v3));simp only [kB3] at h2;exact h2
  have K9:((((((((((W.setCell ⟨w.heap.size,0,none⟩ (.bool ut)).setCell ⟨w.heap.size,1,none⟩ (.string up)).setCell ⟨w.heap.size,2,none⟩ (.int .i64 uk)).setCell ⟨w.heap.size,3,none⟩ (.string ud)).setCell ⟨w.heap.size,4,none⟩ (.int .i64 un)).setCell ⟨w.heap.size,5,none⟩ (.int .i64 um)).setCell ⟨w.heap.size,6,none⟩ (.bool v0)).setCell ⟨w.heap.size,7,none⟩ (.bool v1)).setCell ⟨w.heap.size,8,none⟩ (.bool v2)).setCell ⟨w.heap.size,9,none⟩ (.bool v3)).heap[D]? =some (.deferred (some [])):=(KeepsOthers.trans (KeepsOthers.trans (KeepsOthers.trans (KeepsOthers.trans (KeepsOthers.trans (KeepsOthers.trans (KeepsOthers.trans (KeepsOthers.trans (KeepsOthers.trans (KeepsOthers.trans (KeepsOthers.refl W) (KeepsOthers.setCell _ ⟨w.heap.size,0,none⟩ (.bool ut))) (KeepsOthers.setCell _ ⟨w.heap.size,1,none⟩ (.string up))) (KeepsOthers.setCell _ ⟨w.heap.size,2,none⟩ (.int .i64 uk))) (KeepsOthers.setCell _ ⟨w.heap.size,3,none⟩ (.string ud))) (KeepsOthers.setCell _ ⟨w.heap.size,4,none⟩ (.int .i64 un))) (KeepsOthers.setCell _ ⟨w.heap.size,5,none⟩ (.int .i64 um))) (KeepsOthers.setCell _ ⟨w.heap.size,6,none⟩ (.bool v0))) (KeepsOthers.setCell _ ⟨w.heap.size,7,none⟩ (.bool v1))) (KeepsOthers.setCell _ ⟨w.heap.size,8,none⟩ (.bool v2))) (KeepsOthers.setCell _ ⟨w.heap.size,9,none⟩ (.bool v3))).same D _ hK rfl
  have B9:Below w.heap.size w ((((((((((W.setCell ⟨w.heap.size,0,none⟩ (.bool ut)).setCell ⟨w.heap.size,1,none⟩ (.string up)).setCell ⟨w.heap.size,2,none⟩ (.int .i64 uk)).setCell ⟨w.heap.size,3,none⟩ (.string ud)).setCell ⟨w.heap.size,4,none⟩ (.int .i64 un)).setCell ⟨w.heap.size,5,none⟩ (.int .i64 um)).setCell ⟨w.heap.size,6,none⟩ (.bool v0)).setCell ⟨w.heap.size,7,none⟩ (.bool v1)).setCell ⟨w.heap.size,8,none⟩ (.bool v2)).setCell ⟨w.heap.size,9,none⟩ (.bool v3)):=((((((((((hI.bel.setCell (p:=⟨w.heap.size,0,none⟩) (Nat.le_refl _) (.bool ut)).setCell (p:=⟨w.heap.size,1,none⟩) (Nat.le_refl _) (.string up)).setCell (p:=⟨w.heap.size,2,none⟩) (Nat.le_refl _) (.int .i64 uk)).setCell (p:=⟨w.heap.size,3,none⟩) (Nat.le_refl _) (.string ud)).setCell (p:=⟨w.heap.size,4,none⟩) (Nat.le_refl _) (.int .i64 un)).setCell (p:=⟨w.heap.size,5,none⟩) (Nat.le_refl _) (.int .i64 um)).setCell (p:=⟨w.heap.size,6,none⟩) (Nat.le_refl _) (.bool v0)).setCell (p:=⟨w.heap.size,7,none⟩) (Nat.le_refl _) (.bool v1)).setCell (p:=⟨w.heap.size,8,none⟩) (Nat.le_refl _) (.bool v2)).setCell (p:=⟨w.heap.size,9,none⟩) (Nat.le_refl _) (.bool v3))
  have R9:=ye5 S9 (grownBy_putObj' _ D (.deferred none)) (fun r e=>by cases e;exact ⟨_,K9,rfl⟩);have hDw:w.heap.size≤D:=Nat.le_trans (za O5).bel.size hD;have B10:=B9.grown (grownBy_putObj' _ D (.deferred none)) B9.size (fun q hq=>by cases hq;exact hDw);obtain ⟨r0,r1,r2,r3,r4,r5,r6,r7,r8,r9⟩:=jc10 R9;have RR:=hide (⟨r0,r1,r2,r3,r4,r5,r6,r7,r8,r9⟩:_∧_∧_∧_∧_∧_∧_∧_∧_∧_);have K10:=hide K9;have B11:=hide B10;clear r0 r1 r2 r3 r4 r5 r6 r7 r8 r9 S9 K9 B9 R9 B10;clear hI hlen hK
  gi_wp2
  refine ⟨by simp, .inl ⟨_,_,rfl,run_takeDeferred (za K10),?_⟩⟩;obtain ⟨r0,r1,r2,r3,r4,r5,r6,r7,r8,r9⟩:=za RR;exact ⟨.agg #[.bool ut, .string up, .int .i64 uk, .string ud, .int .i64 un, .int .i64 um, .bool v0, .bool v1, .bool v2, .bool v3],by simp [results,Tryz.results169,go_sem,r0,r1,r2,r3,r4,r5,r6,r7,r8,r9],rfl,za B11⟩
 case stop=>
  rintro D c pre W _ _ h _;exact h.elim
end zk1
end Go.Proofs.YthdhhcgopfgcbaaGreatDoor
