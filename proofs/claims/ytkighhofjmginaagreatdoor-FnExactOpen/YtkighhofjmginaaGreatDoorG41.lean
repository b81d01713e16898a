/- Several texts of one claim in one file: WSpS5, MemCp8, MemPutT, WCopyV, WCopy5. -/
import Derived.Test.YtkighhofjmginaaGreatDoorWSpS3
import Derived.Test.YtkighhofjmginaaGreatDoorWSpS4
namespace Go.Proofs.YtkighhofjmginaaGreatDoor
section
open Go.RowKit
namespace WSp
set_option linter.unusedSimpArgs false in
set_option maxRecDepth 100000 in
set_option maxHeartbeats 1000000 in
theorem zi4 (s:Pl.Sp) (w:World) (hok:zb0.OkS s 1048576) (hv:Mem.zc9 w s):
  Calls Tryz.prog 58 #[.agg s.cs] w fun e w'=>e= .returned (.bool (Pl.zc2 s.next (s.N.map nr) s.M s.H Pl.wayB))∧Below w.heap.size w w':=by
 have h0:=hide (fun W=>yc9 s.next 1 1000000 W);have h1:=hide (fun W (b:Below w.heap.size w W) hn0 hn1=>handles_any s W hok (hv.call b) hn0 hn1);have h2:=hide (fun W (b:Below w.heap.size w W)=>yd4 s W hok (hv.call b));have h3:=hide (fun W (b:Below w.heap.size w W) hn0 hn1=>zo s W hok (hv.call b) hn0 hn1)
 have HEQ:Hid (Pl.zc2 s.next (s.N.map nr) s.M s.H Pl.wayB=(Pl.isB s.next 1 1000000&&Pl.zo8 (s.N.map (·.d)) s.next Pl.wayB s.H&&Pl.zj5 (s.N.map (·.d)) s.M&&Pl.zo5 s.M s.H s.next (s.N.map nr))):=hide (by
  unfold Pl.zc2;rw [List.map_map]
  rfl)
 have HIS:Hid (Pl.isB s.next 1 1000000=true→1≤s.next∧s.next≤1000000):=hide (fun h=>(Pl.zp0 _ _ _).1 h);generalize Pl.zc2 s.next (s.N.map nr) s.M s.H Pl.wayB=R at HEQ ⊢;generalize Pl.isB s.next 1 1000000=R0 at HEQ h0 HIS;generalize Pl.zo8 (s.N.map (·.d)) s.next Pl.wayB s.H=R1 at HEQ h1;generalize Pl.zj5 (s.N.map (·.d)) s.M=R2 at HEQ h2;generalize Pl.zo5 s.M s.H s.next (s.N.map nr)=R3 at HEQ h3;clear hok hv;obtain ⟨ia,ic,N,ma,mc,M,ha,hc,H,next⟩:=s;simp only at h0 h1 h2 h3 HIS ⊢;unfold Pl.Sp.cs at h1 h2 h3 ⊢;simp only at h1 h2 h3 ⊢;have b0:=(Below.refl w.heap.size w).alloc (o:= .cells #[.slice ia N.length ic, .slice ma M.length mc, .slice ha H.length hc, .int .i64 next] 32) (Nat.le_refl _);have V0:=hide (Mem.Blk.new w #[.slice ia N.length ic, .slice ma M.length mc, .slice ha H.length hc, .int .i64 next] 32);have a0:=(za V0).cell 0;have a1:=(za V0).cell 1
 have a2:=(za V0).cell 2;have a3:=(za V0).cell 3;simp only [kGs] at a0 a1 a2 a3;go_enter Tryz.func58,Tryz.ntmps58
 go_wp2_with fail
 generalize w.alloc (.cells #[.slice ia N.length ic, .slice ma M.length mc, .slice ha H.length hc, .int .i64 next] 32)=wA at b0 V0 a0 a1 a2 a3 ⊢;refine (za h0 _).mono ?_;rintro e w1 ⟨rfl,bX⟩;have b1:=b0.trans (bX.mono b0.size);have V1:=hide ((za V0).call bX);clear a0 a1 a2 a3 V0 b0 bX h0;cases R0
 ·have HE:Hid (R=false):=hide (za HEQ);clear HEQ h1 h2 h3 HIS;go_wp2
  go_ret
  exact ⟨(by rw [za HE];first |done|rfl),b1⟩
 obtain ⟨n0,n1⟩:=za HIS rfl;obtain ⟨a0,a1,a2,a3⟩:=jc4 (za V1);have HC:=hide (za h1 _ b1 n0 n1);clear h1 HIS;go_wp2_with fail
 refine (za HC).mono ?_;rintro e w2 ⟨rfl,bX⟩;have b2:=b1.trans (bX.mono b1.size);have V2:=hide ((za V1).call bX);clear a0 a1 a2 a3 V1 b1 bX HC;cases R1
 ·have HE:Hid (R=false):=hide (za HEQ);clear HEQ h2 h3;go_wp2
  go_ret
  exact ⟨(by rw [za HE];first |done|rfl),b2⟩
 obtain ⟨a0,a1,a2,a3⟩:=jc4 (za V2);have HC:=hide (za h2 _ b2);clear h2;go_wp2_with fail
 refine (za HC).mono ?_;rintro e w3 ⟨rfl,bX⟩;have b3:=b2.trans (bX.mono b2.size);have V3:=hide ((za V2).call bX);clear a0 a1 a2 a3 V2 b2 bX HC;cases R2
 ·have HE:Hid (R=false):=hide (za HEQ);clear HEQ h3;go_wp2
  go_ret
  exact ⟨(by rw [za HE];first |done|rfl),b3⟩
 obtain ⟨a0,a1,a2,a3⟩:=jc4 (za V3);have HC:=hide (za h3 _ b3 n0 n1);clear h3;go_wp2_with fail
 refine (za HC).mono ?_;rintro e w4 ⟨rfl,bX⟩;have b4:=b3.trans (bX.mono b3.size);have HE:Hid (R=R3):=hide (za HEQ);clear a0 a1 a2 a3 V3 b3 bX HC HEQ n0 n1;go_wp2
 go_ret
 exact ⟨(by rw [za HE];first |done|rfl),b4⟩
end WSp
end
section
open Go.RowKit
namespace Cp8
abbrev Z:Obj:= .cells #[.slice none 0 0, .slice none 0 0, .slice none 0 0, .int .i64 0] 32
structure P1 (D W:World) (eX:Option Nat) (om:Option (Value × List Pl.Mn)) (oh:Option (Value × List Pl.Hn)):Prop where
 bel:Below D.heap.size D W
 bx:∀X,eX=some X→Mem.Blk W X #[.slice none 0 0, .slice none 0 0, .slice none 0 0, .int .i64 0] 32∧D.heap.size≤X
 q1:∀v L,om=some (v,L)→Mem.own3 56 Pl.Mn.cs W D.heap.size v L∧∀g,v.ownBlock=some g→eX≠some g
 q2:∀v L,oh=some (v,L)→Mem.own3 67 Pl.Hn.cs W D.heap.size v L∧∀g,v.ownBlock=some g→eX≠some g
 ne:∀v L v' L',om=some (v,L)→oh=some (v',L')→∀g,v.ownBlock=some g→v'.ownBlock≠some g
section
variable {D W W':World} {eX:Option Nat} {om:Option (Value × List Pl.Mn)} {oh:Option (Value × List Pl.Hn)}
theorem P1.call (h:P1 D W eX om oh) (b:Below W.heap.size W W'):P1 D W' eX om oh:=
 ⟨h.bel.trans (b.mono h.bel.size),fun X e=>⟨(h.bx X e).1.call b,(h.bx X e).2⟩,fun v L e=>⟨Mem.zd7 (h.q1 v L e).1 b,(h.q1 v L e).2⟩,fun v L e=>⟨Mem.zd7 (h.q2 v L e).1 b,(h.q2 v L e).2⟩,h.ne⟩
theorem P1.ax (h:P1 D W none om oh):P1 D (W.alloc Z) (some W.heap.size) om oh:=by
 have g:=h.call ((Below.refl _ _).alloc (Nat.le_refl _) Z);refine ⟨g.bel,fun X e=>?_,fun v L e=>⟨(g.q1 v L e).1,fun q hq e2=>?_⟩,fun v L e=>⟨(g.q2 v L e).1,fun q hq e2=>?_⟩,h.ne⟩
 ·cases e;exact ⟨Mem.Blk.new _ _ _,h.bel.size⟩
 ·cases e2;have :=(Mem.zb (h.q1 v L e).1 _ hq).2;omega
 ·cases e2;have :=(Mem.zb (h.q2 v L e).1 _ hq).2;omega
theorem own_empty {α:Type} (T:TypeId) (cs:α→List Value) (W:World) (B:Nat) (hB:B≤W.heap.size):Mem.own3 T cs (W.alloc (.cells #[] T)) B (.slice (some ⟨W.heap.size,0,none⟩) 0 0) []:=
 ⟨rfl, .inr ⟨W.heap.size,0,#[],rfl,hB,heap_alloc_new _ _,Nat.le_refl _,Nat.zero_le _,rfl,rfl⟩⟩
theorem P1.mm (h:P1 D W eX none oh):P1 D (W.alloc (.cells #[] 56)) eX (some (.slice (some ⟨W.heap.size,0,none⟩) 0 0,[])) oh:=by
 have g:=h.call ((Below.refl _ _).alloc (Nat.le_refl _) (.cells #[] 56));refine ⟨g.bel,g.bx,fun v L e=>?_,g.q2,fun v L v' L' e e' q hq hq'=>?_⟩
 ·cases e;exact ⟨own_empty _ _ _ _ h.bel.size,fun q hq e2=>by cases hq;have :=(h.bx _ e2).1.lt;simp only at this;omega⟩
 ·cases e;cases hq;have :=(Mem.zb (h.q2 v' L' e').1 _ hq').2;simp only at this;omega
theorem P1.mh (h:P1 D W eX om none):P1 D (W.alloc (.cells #[] 67)) eX om (some (.slice (some ⟨W.heap.size,0,none⟩) 0 0,[])):=by
 have g:=h.call ((Below.refl _ _).alloc (Nat.le_refl _) (.cells #[] 67));refine ⟨g.bel,g.bx,g.q1,fun v L e=>?_,fun v L v' L' e e' q hq hq'=>?_⟩
 ·cases e;exact ⟨own_empty _ _ _ _ h.bel.size,fun q hq e2=>by cases hq;have :=(h.bx _ e2).1.lt;simp only at this;omega⟩
 ·cases e';cases hq';have :=(Mem.zb (h.q1 v L e).1 _ hq).2;simp only at this;omega
theorem P1.am {v v':Value} {L M:List Pl.Mn} (h:P1 D W eX (some (v,L)) oh) (own:Mem.own3 56 Pl.Mn.cs W' D.heap.size v' M) (gr:W.grownBy W' v.ownBlock) (far:∀g,v'.ownBlock=some g→v.ownBlock=some g∨W.heap.size≤g):P1 D W' eX (some (v',M)) oh:=by
 obtain ⟨o1,n1⟩:=h.q1 v L rfl;refine ⟨h.bel.grown gr h.bel.size (fun q hq=>(Mem.zb o1 q hq).1),fun X e=>⟨(h.bx X e).1.grown gr (fun e2=>n1 X e2.symm e),(h.bx X e).2⟩,fun u K e=>?_,fun u K e=>⟨Mem.ze6 (h.q2 u K e).1 (fun q hq=>gr.block q (Mem.zb (h.q2 u K e).1 q hq).2 (fun e2=>h.ne v L u K rfl e q e2.symm hq)),(h.q2 u K e).2⟩,fun u K u' K' e e' q hq hq'=>?_⟩
 ·cases e
  refine ⟨own,fun q hq e2=>?_⟩
  rcases far q hq with h3|h3
  ·exact n1 q h3 e2
  ·have :=(h.bx q e2).1.lt;omega
 ·cases e
  rcases far q hq with h3|h3
  ·exact h.ne v L u' K' rfl e' q h3 hq'
  ·have :=(Mem.zb (h.q2 u' K' e').1 q hq').2;omega
theorem P1.ah {v v':Value} {L M:List Pl.Hn} (h:P1 D W eX om (some (v,L))) (own:Mem.own3 67 Pl.Hn.cs W' D.heap.size v' M) (gr:W.grownBy W' v.ownBlock) (far:∀g,v'.ownBlock=some g→v.ownBlock=some g∨W.heap.size≤g):P1 D W' eX om (some (v',M)):=by
 obtain ⟨o1,n1⟩:=h.q2 v L rfl;refine ⟨h.bel.grown gr h.bel.size (fun q hq=>(Mem.zb o1 q hq).1),fun X e=>⟨(h.bx X e).1.grown gr (fun e2=>n1 X e2.symm e),(h.bx X e).2⟩,fun u K e=>⟨Mem.ze6 (h.q1 u K e).1 (fun q hq=>gr.block q (Mem.zb (h.q1 u K e).1 q hq).2 (fun e2=>h.ne u K v L e rfl q hq e2.symm)),(h.q1 u K e).2⟩,fun u K e=>?_,fun u K u' K' e e' q hq hq'=>?_⟩
 ·cases e
  refine ⟨own,fun q hq e2=>?_⟩
  rcases far q hq with h3|h3
  ·exact n1 q h3 e2
  ·have :=(h.bx q e2).1.lt;omega
 ·cases e'
  rcases far q hq' with h3|h3
  ·exact h.ne u K v L e rfl q hq h3
  ·have :=(Mem.zb (h.q1 u K e).1 q hq).2;omega
end
structure Rk (v W:World) (X:Nat) (a b:Option Addr) (ca cb:Nat) (M:List Pl.Mn) (H:List Pl.Hn) (next :Int):Prop where
 bel:Below v.heap.size v W
 bx:Mem.Blk W X #[.slice none 0 0, .slice a M.length ca, .slice b H.length cb, .int .i64 next] 32
 lx:v.heap.size≤X
 q1:Mem.own3 56 Pl.Mn.cs W v.heap.size (.slice a M.length ca) M
 q2:Mem.own3 67 Pl.Hn.cs W v.heap.size (.slice b H.length cb) H
 ne:∀g,(Value.slice a M.length ca).ownBlock=some g→(Value.slice b H.length cb).ownBlock≠some g
 x1:∀g,(Value.slice a M.length ca).ownBlock=some g→g≠X
 x2:∀g,(Value.slice b H.length cb).ownBlock=some g→g≠X
theorem P1.fin {D W:World} {X:Nat} {a b:Option Addr} {ca cb:Nat} {M:List Pl.Mn} {H:List Pl.Hn} (h:P1 D W (some X) (some (.slice a M.length ca,M)) (some (.slice b H.length cb,H))) (next :Int):
  Rk D ((((W.setCell ⟨X,0,none⟩ (.slice none 0 0)).setCell ⟨X,1,none⟩ (.slice a M.length ca)).setCell ⟨X,2,none⟩ (.slice b H.length cb)).setCell ⟨X,3,none⟩ (.int .i64 next)) X a b ca cb M H next :=by
 obtain ⟨h5,l5⟩:=h.bx _ rfl;obtain ⟨o1,n1⟩:=h.q1 _ _ rfl;obtain ⟨o2,n2⟩:=h.q2 _ _ rfl;refine ⟨(((h.bel.setCell l5 _).setCell l5 _).setCell l5 _).setCell l5 _,(((h5.put 0 _).put 1 _).put 2 _).put 3 _,l5,?_,?_,h.ne _ _ _ _ rfl rfl,fun g hg e=>n1 g hg (congrArg some e.symm),fun g hg e=>n2 g hg (congrArg some e.symm)⟩
 ·exact Mem.zb2 (Mem.zb2 (Mem.zb2 (Mem.zb2 o1 _ _ (fun g hg e=>n1 g hg (congrArg some e))) _ _ (fun g hg e=>n1 g hg (congrArg some e))) _ _ (fun g hg e=>n1 g hg (congrArg some e))) _ _ (fun g hg e=>n1 g hg (congrArg some e))
 ·exact Mem.zb2 (Mem.zb2 (Mem.zb2 (Mem.zb2 o2 _ _ (fun g hg e=>n2 g hg (congrArg some e))) _ _ (fun g hg e=>n2 g hg (congrArg some e))) _ _ (fun g hg e=>n2 g hg (congrArg some e))) _ _ (fun g hg e=>n2 g hg (congrArg some e))
theorem meet {P F:World→Nat→Option Addr→Nat→Option Addr→Nat→Prop} {G:Prop} (h1:(∀W X a ca b cb,F W X a ca b cb→P W X a ca b cb)→G) (h2:∀W X a ca b cb,F W X a ca b cb→P W X a ca b cb):G:=h1 h2
end Cp8
end
section
open Go.RowKit
namespace WPutT
theorem zu7:(Tryz.prog.info? 60).map (fun i=>(i.zero,i.size,i.bytes))=some (some (.agg #[.string ⟨#[]⟩, .int .i64 0, .string ⟨#[]⟩, .int .i64 0, .int .i64 0]),5,56):=by kernel_rfl
theorem cells_at {w:World} {g o:Nat} {M:List Pl.Nd} (h:Mem.zb1 w (some ⟨g,o,none⟩) M):∀j u,(Pl.zd6 M)[j]? =some u→w.cell? ((⟨g,o,none⟩:Addr).add j)=some u:=by
 intro j u hj
 have hlt:j<M.length*5:=by
  have :=(List.getElem?_eq_some_iff.1 hj).1
  rwa [Pl.zp3] at this
 have hd:j / 5<M.length:=by omega
 obtain ⟨g',o',e,h0,h1,h2,h3,h4,h5⟩:=h (j / 5) M[j / 5] (List.getElem?_eq_getElem hd);cases e
 have hc:=Pl.zs9 M (j / 5) _ (List.getElem?_eq_getElem hd) (j % 5) (by omega);rw [show j / 5*5+j % 5=j by omega,hj] at hc;rw [Mem.zx8];have hm:j % 5=0∨j % 5=1∨j % 5=2∨j % 5=3∨j % 5=4:=by omega
 have ej:o+j=o+j / 5*5+j % 5:=by omega
 rw [ej,hc]
 rcases hm with h|h|h|h|h <;> rw [h]
 ·exact h1
 ·exact h2
 ·exact h3
 ·exact h4
 ·exact h5
theorem cells_one (M:List Pl.Nd):∀u∈Pl.zd6 M,u.oneCell'=true:=by
 intro u hu;rw [Pl.zd6,List.mem_flatMap] at hu;obtain ⟨n,_,hn⟩:=hu;exact Mem.cs_one n u hn
theorem ownN_app {w:World} {B m:Nat} {v:Value} {A M:List Pl.Nd} (h:w.ownsRow B 60 5 v (A.length+m) (Pl.zd6 A++Pl.zd6 M)) (hm:m=M.length):Mem.ownN w B v (A++M):=by
 subst hm;unfold Mem.ownN;rw [Pl.yj6,List.length_append];exact h
end WPutT
end
section
open Go.RowKit
namespace WCopyV
set_option linter.unusedSimpArgs false in
set_option maxRecDepth 100000 in
set_option maxHeartbeats 1000000 in
theorem zy4 (a:Option Addr) (cap:Nat) (L:List Pl.Nd) (w:World) (hl:L.length≤1000) (hA:Mem.okR a cap L) (hv:Mem.zb1 w a L):
  Calls Tryz.prog 87 #[.agg #[.slice a L.length cap]] w fun e w'=>∃v,e= .returned (.agg #[v])∧Mem.ownN w' w.heap.size v L∧Below w.heap.size w w':=by
 obtain ⟨i0,hi,hz0,hz1,hz2⟩:=info_parts WPutT.zu7;have b2:Below w.heap.size w (((w.alloc (.cells #[.slice a L.length cap] 103)).alloc (.cells #[.slice none 0 0] 103)).alloc (.cells #[] 60)):=((bE0).alloc (by simp) _).alloc (by simp;omega) _;have B0:=((Mem.Blk.new w #[.slice a L.length cap] 103).alloc (.cells #[.slice none 0 0] 103)).alloc (.cells #[] 60);have B1:Mem.Blk (((w.alloc (.cells #[.slice a L.length cap] 103)).alloc (.cells #[.slice none 0 0] 103)).alloc (.cells #[] 60)) (w.heap.size+1) #[.slice none 0 0] 103:=(show Mem.Blk ((w.alloc (.cells #[.slice a L.length cap] 103)).alloc (.cells #[.slice none 0 0] 103)) (w.heap.size+1) #[.slice none 0 0] 103 from Mem.zi _ _ _).alloc _
 have OA:Hid (Mem.ownN (((w.alloc (.cells #[.slice a L.length cap] 103)).alloc (.cells #[.slice none 0 0] 103)).alloc (.cells #[] 60)) (w.heap.size+2) (.slice (some ⟨w.heap.size+2,0,none⟩) 0 0) []):=by
  refine ⟨rfl, .inr ⟨w.heap.size+2,0,#[],rfl,Nat.le_refl _,?_,Nat.le_refl _,Nat.zero_le _,rfl,rfl⟩⟩;have h:=heap_alloc_new ((w.alloc (.cells #[.slice a L.length cap] 103)).alloc (.cells #[.slice none 0 0] 103)) (.cells #[] 60);rw [show ((w.alloc (.cells #[.slice a L.length cap] 103)).alloc (.cells #[.slice none 0 0] 103)).heap.size=w.heap.size+2 by simp] at h;exact h
 have NV:=hide (Mem.za9 hv b2);have x0:=B0.cell 0;simp only [kA0,kA1] at x0;clear hv
 rcases hA with ⟨rfl,rfl,rfl⟩|⟨g,o,rfl⟩
 ·simp only [List.length_nil] at OA B1 b2 x0 ⊢;have z0:=B1.cell 0;have zf:=B1.fr 0;simp only [kA0,kA1] at z0;have BB:=(B1.put 0 (.slice (some ⟨w.heap.size+2,0,none⟩) 0 0)).cell 0;go_enter Tryz.func87,Tryz.ntmps87
  go_wp2_with (at_builtin;refine wpList_append_own_none rfl _ _ 101 rfl (w.heap.size+2) 60 i0 5 Tryz.underlying101 hi _ _ _ rfl (za OA) rfl ?_)
  refine bodyPost_ret (v:= .agg #[.slice (some ⟨w.heap.size+1+1,0,none⟩) 0 0]) (by simp [results,Tryz.results87,go_sem,z0]) rfl ⟨_,rfl,?_,?_⟩
  ·refine ⟨rfl, .inr ⟨w.heap.size+1+1,0,#[],rfl,by omega,?_,Nat.le_refl _,Nat.zero_le _,rfl,rfl⟩⟩;have h:=heap_alloc_new ((w.alloc (.cells #[.slice none 0 0] 103)).alloc (.cells #[.slice (some ⟨w.heap.size+1+1,0,none⟩) 0 0] 103)) (.cells #[] 60);rw [show ((w.alloc (.cells #[.slice none 0 0] 103)).alloc (.cells #[.slice (some ⟨w.heap.size+1+1,0,none⟩) 0 0] 103)).heap.size=w.heap.size+1+1 by simp] at h;exact h
  ·exact ((bE0).alloc (by simp) _).alloc (by simp;omega) _
 ·go_enter Tryz.func87,Tryz.ntmps87
  go_wp2_with (at_builtin;refine wpList_append_own _ rfl _ _ 101 rfl (w.heap.size+2) 60 i0 _ 5 56 Tryz.underlying101 hi hz0 hz1 hz2 rfl (by decide) _ _ _ rfl (za OA) ⟨g,o,none⟩ L.length cap (Pl.zd6 L) rfl (by rw [Pl.zp3]) (WPutT.cells_at (za NV)) (WPutT.cells_one _) (by rw [List.length_nil,Nat.zero_add];unfold maxLen;omega) (by rw [List.length_nil,Nat.zero_add];omega) (by simp) ?_)
  intro v1 wA ownA growA _;have OB:=hide (WPutT.ownN_app (A:=[]) (M:=L) (m:=L.length) (by rw [List.length_nil,Nat.zero_add];exact ownA) rfl);rw [List.nil_append] at OB;have hg1:∀q,(Value.slice (some ⟨w.heap.size+2,0,none⟩) 0 0).ownBlock=some q→q=w.heap.size+2:=fun q hq=>(Option.some.inj hq).symm;have B1:=B1.grown growA (fun e=>by have :=hg1 _ e.symm;omega);have b3:=b2.grown growA b2.size (fun q hq=>by have :=hg1 q hq;omega);obtain ⟨a3,c3,hv3⟩:=Mem.za7 (za OB);subst hv3;have z0:=B1.cell 0;have zf:=B1.fr 0;simp only [kA0,kA1] at z0;clear ownA growA hg1 OA NV x0 B0 b2;go_wp2
  refine bodyPost_ret (v:= .agg #[.slice a3 L.length c3]) (by simp [results,Tryz.results87,go_sem,z0]) rfl ⟨_,rfl,?_,?_⟩
  ·exact Mem.zw2 (Mem.ownN_set (za OB) _ _ (by show w.heap.size+1<w.heap.size+2;omega)) (by omega)
  ·exact b3.setCell (by show w.heap.size≤w.heap.size+1;omega) _
end WCopyV
end
section
open Go.RowKit
namespace Mem
theorem items_cells {w:World} {b o:Nat} {Is:List Pl.It} (h:zb3 w (some ⟨b,o,none⟩) Is):∀j u,(Pl.zc3 Is)[j]? =some u→w.cell? ((⟨b,o,none⟩:Addr).add j)=some u:=by
 intro j u hj;have hlt:=(List.getElem?_eq_some_iff.1 hj).1;rw [Pl.yd5] at hlt;have ea:(⟨b,o,none⟩:Addr).add j=⟨b,o+j,none⟩:=by unfold Addr.add;split <;> simp_all
 rw [ea];obtain ⟨x,hx⟩:∃x,Is[j / 2]? =some x:=⟨_,List.getElem?_eq_getElem (by omega)⟩;obtain ⟨⟨b',o',e,hb,q0,q1⟩, -⟩:=h (j / 2) x hx;cases e
 obtain ⟨c0,c1⟩:=Pl.zv8 Is (j / 2) x hx
 rcases Nat.mod_two_eq_zero_or_one j with hm|hm
 ·have e1:j=j / 2*2:=by omega
  rw [←e1] at c0 q0;rw [c0] at hj;cases hj
  exact q0
 ·have e1:j=j / 2*2+1:=by omega
  rw [←e1] at c1;rw [show o+j / 2*2+1=o+j by omega] at q1;rw [c1] at hj;cases hj
  exact q1
end Mem
namespace WCopy5
theorem infoI:(Tryz.prog.info? 105).map (fun i=>(i.zero,i.size,i.bytes))=some (some (.agg #[.int .i64 0, .slice none 0 0]),2,32):=by kernel_rfl
set_option linter.unusedSimpArgs false in
set_option maxRecDepth 100000 in
set_option maxHeartbeats 1000000 in
theorem zy4 (b o cap:Nat) (Is:List Pl.It) (hl:Is.length≤12) (h0:Is.length≠0) (hL:∀x∈Is,x.t.L.length≤1000) (hR:∀x∈Is,Mem.okR x.t.a x.t.cap x.t.L) (w:World) (hv:Mem.zb3 w (some ⟨b,o,none⟩) Is):
  Calls Tryz.prog 48 #[.slice (some ⟨b,o,none⟩) Is.length cap] w fun e w'=>∃g cap' Ds,e= .returned (.slice (some ⟨g,0,none⟩) Is.length cap')∧w.heap.size≤g∧Mem.Io w' w.heap.size (.slice (some ⟨g,0,none⟩) Is.length cap') Ds∧Ds.map Pl.It.r=Is.map Pl.It.r∧Below w.heap.size w w':=by
 obtain ⟨i0,hi,hz0,hz1,hz2⟩:=info_parts infoI;have b0:Below w.heap.size w (w.alloc (.cells #[] 105)):=(Below.refl _ _).alloc (Nat.le_refl _) _;have O0:Hid ((w.alloc (.cells #[] 105)).ownsRow w.heap.size 105 2 (.slice (some ⟨w.heap.size,0,none⟩) 0 0) 0 []):=⟨rfl, .inr ⟨w.heap.size,0,#[],rfl,Nat.le_refl _,heap_alloc_new _ _,Nat.le_refl _,Nat.zero_le _,rfl,rfl⟩⟩;have HC:=hide (Mem.items_cells (Mem.zb9 hv b0));have HCP:=hide (fun (x:Pl.It) (j:Nat) (hx:Is[j]? =some x) W (bb:Below w.heap.size w W)=>WCopyV.zy4 x.t.a x.t.cap x.t.L W (hL x (List.mem_of_getElem? hx)) (hR x (List.mem_of_getElem? hx)) (Mem.za9 (hv j x hx).2 bb));clear hv hL hR;go_enter Tryz.func48,Tryz.ntmps48
 go_wp2_with (at_builtin;refine Mem.ze0 _ rfl _ _ 45 rfl w.heap.size 105 i0 (.agg #[.int .i64 0, .slice none 0 0]) 2 32 Tryz.underlying45 hi hz0 hz1 hz2 rfl (by decide) _ _ _ rfl (za O0) ⟨b,o,none⟩ Is.length cap (Pl.zc3 Is) rfl (Pl.yd5 Is) (za HC) (Pl.yi8 Is) (by unfold maxLen;omega) (by omega) (by simp) ?_)
 intro v1 w1 own1 gr1 far1
 have hsh:∃g cap',v1= .slice (some ⟨g,0,none⟩) Is.length cap':=by
  rcases own1.2 with ⟨e,hz⟩|⟨g,c,cur,e,rest⟩
  ·exact absurd hz h0
  ·exact ⟨g,c,e⟩
 obtain ⟨g,cap',rfl⟩:=hsh;have hg:=World.ownsRow.lt own1 g rfl;have bw1:=b0.grown gr1 (by simp) (fun q hq=>by cases hq;exact Nat.le_refl _);have CQ:Hid (Mem.Cq w1 w.heap.size g cap' [] (Is.drop ([]:List Pl.It).length)):=hide ⟨by simpa using own1,fun i x hx=>(by cases hx),fun i j x y _ hx=>(by cases hx)⟩;have DM:Hid (([]:List Pl.It).map Pl.It.r=(Is.take ([]:List Pl.It).length).map Pl.It.r):=rfl;have HGW:=hide hg.1;clear own1 gr1 far1 O0 HC b0 hg;go_wp2
 go_loopw [4] (fun i wr=>∃Ds:List Pl.It,i= .int .i64 (Ds.length:Int)∧Ds.length≤Is.length∧Below w.heap.size w wr∧Hid (Mem.Cq wr w.heap.size g cap' Ds (Is.drop Ds.length))∧Hid (Ds.map Pl.It.r=(Is.take Ds.length).map Pl.It.r)) (fun i _=>Is.length - (intOf i).toNat)
 case atStart=>exact ⟨[],rfl,Nat.zero_le _,bw1,CQ,DM⟩
 case round=>
  obtain ⟨Ds,rfl,hD,hbel,HQ,HM⟩:=hrel;clear CQ DM bw1;by_cases hlt:Ds.length<Is.length
  ·obtain ⟨x,hx⟩:∃x,Is[Ds.length]? =some x:=⟨_,List.getElem?_eq_getElem hlt⟩
   have hdr:Is.drop Ds.length=x::Is.drop (Ds.length+1):=by
    rw [List.drop_eq_getElem_cons hlt]
    congr 1
    exact Option.some.inj ((List.getElem?_eq_getElem hlt).symm.trans hx)
   rw [hdr] at HQ;have u1:(Ds.length:Int)<(Is.length:Int):=by omega
   have u3:(0:Int)≤(Ds.length:Int):=by omega
   obtain ⟨ce, -⟩:=Mem.zu5 (za HQ).row (k:=Ds.length*2+1) (u:=x.t.val) (Pl.zv8 _ Ds.length x (by rw [List.getElem?_append_right (Nat.le_refl _),Nat.sub_self];rfl)).2;simp only [Pl.Tr.val] at ce;have hcp:=hide (za HCP x Ds.length hx wr hbel);have hS:=hbel.size;have HST:=hide (fun W1 b t ht=>(za HQ).step (W1:=W1) (t:=t) b hS ht);have HQ2:=hide (fun W1 (b:Below wr.heap.size wr W1)=>(Mem.zu5 ((za HQ).call b).row (k:=Ds.length*2+1) (u:=x.t.val) (Pl.zv8 _ Ds.length x (by rw [List.getElem?_append_right (Nat.le_refl _),Nat.sub_self];rfl)).2));have HMX:Hid ((Is.take (Ds.length+1)).map Pl.It.r=(Is.take Ds.length).map Pl.It.r++[x.r]):=hide (by rw [List.take_add_one,hx,List.map_append];rfl);clear hdr hx HQ;go_wp2_with fail
   refine (za hcp).mono ?_;rintro e w2 ⟨v2,rfl,own2,b2⟩;obtain ⟨a2,c2,rfl⟩:=Mem.za7 own2;obtain ⟨ce2,cf2⟩:=za HQ2 w2 b2;have Q3:=hide (za HST w2 b2 ⟨a2,c2,x.t.L⟩ own2);have bw2:=hbel.trans (b2.mono hbel.size);have HB:=hide (bw2.setCell (p:=⟨g,Ds.length*2+1,none⟩) (za HGW) (.slice a2 x.t.L.length c2));have HM3:Hid ((Ds++[(⟨x.m,⟨a2,c2,x.t.L⟩⟩:Pl.It)]).map Pl.It.r=(Is.take (Ds.length+1)).map Pl.It.r):=hide (by rw [List.map_append,za HM,za HMX];rfl);simp only [Pl.Tr.val] at ce2 Q3;clear hcp HST HQ2 HMX HM own2 b2 bw2 ce hbel;go_wp2
   go_roundw
   case rel=>
    refine ⟨Ds++[⟨x.m,⟨a2,c2,x.t.L⟩⟩],?_,?_,za HB,?_,?_⟩
    ·rw [List.length_append,List.length_singleton];go_num
    ·rw [List.length_append,List.length_singleton];omega
    ·rw [List.length_append,List.length_singleton];exact Q3
    ·rw [List.length_append,List.length_singleton];exact HM3
   case measure=>simp [intOf];omega
  ·have u1:¬ (Ds.length:Int)<(Is.length:Int):=by omega
   have hDe:Ds.length=Is.length:=by omega
   have IO:Hid (Mem.Io wr w.heap.size (.slice (some ⟨g,0,none⟩) Is.length cap') Ds):=hide (by
    have h1:=za HQ;rw [hDe,List.drop_length] at h1;have h2:=h1.done;rw [hDe] at h2
    exact h2)
   have HM3:Hid (Ds.map Pl.It.r=Is.map Pl.It.r):=hide (by have :=za HM;rw [hDe,List.take_length] at this;exact this);clear HQ HM hDe;go_wp2
   go_ret
   exact ⟨g,cap',rfl,za HGW,Ds,za IO,za HM3,hbel⟩
end WCopy5
end
end Go.Proofs.YtkighhofjmginaaGreatDoor
