/- Several texts of one claim in one file: MemTold, Merge. -/
import Derived.Test.YtggadpalljhiaaaGreatDoorMemSpO
import Derived.Test.YtggadpalljhiaaaGreatDoorG10
import Derived.Test.YtggadpalljhiaaaGreatDoorG29
import Derived.Test.YtggadpalljhiaaaGreatDoorPlainNestAt
import Derived.Deep.RegionHeld3
namespace Go.Proofs.YtggadpalljhiaaaGreatDoor
section
open Go.RowKit Go.Maps
namespace Mem
theorem Iz.up {W W':World} {S S2:Nat} {v:Value} {Ns:List Pl.Ns} {lo hi:Nat→Nat} {r:Option Nat} (h:Iz W S v Ns lo hi) (gr:W.grownBy W' r) (hr:∀g,r=some g→S2≤g) (hv:∀g,v.ownBlock=some g→g<S2) (hh:∀j,j<Ns.length→hi j≤S2):Iz W' S v Ns lo hi:=
 ⟨zc9 h.row (fun g hg=>gr.block g (World.ownsRow.lt h.row g hg).2 (fun e=>by have :=hr g e.symm;have :=hv g hg;omega)),fun j x hx=>by
  obtain ⟨h1,h2,h3,h4,h5⟩:=h.each j x hx;have :=hh j (List.getElem?_eq_some_iff.1 hx).1
  exact ⟨h1.same (fun b hb1 hb2=>gr.block b (by omega) (fun e=>by have :=hr b e.symm;omega)),h2,h3,Nat.le_trans h4 gr.size,h5⟩,h.rise⟩
end Mem
namespace SpO
structure Told (w W:World) (s u:Pl.Sp) (S1 S2 S3:Nat) (lo hi:Nat→Nat):Prop where
 n:u.N.map Pl.Ns.r=s.N.map Pl.Ns.r
 m:u.M=s.M
 h:u.H=s.H
 x:u.next=s.next
 s1:w.heap.size≤S1
 iz:Mem.Iz W S1 (.slice u.ia u.N.length u.ic) u.N lo hi
 r1:∀g,(Value.slice u.ia u.N.length u.ic).ownBlock=some g→g<S2
 h1:∀j,j<u.N.length→hi j≤S2
 om:Mem.own3 51 Pl.Mn.cs W S2 (.slice u.ma u.M.length u.mc) u.M
 r2:∀g,(Value.slice u.ma u.M.length u.mc).ownBlock=some g→g<S3
 s2:S1≤S2
 s3:S2≤S3
 oh:Mem.own3 99 Pl.Hn.cs W S3 (.slice u.ha u.H.length u.hc) u.H
structure Tk (w W:World) (q:Nat) (sa ta:Option Addr) (sc tc:Nat) (s:Pl.Sp) (O:Array Value):Prop where
 bel:Below w.heap.size w W
 b1:Mem.Blk W w.heap.size #[.map (some q), .slice sa s.M.length sc, .slice ta s.H.length tc, .int .i64 s.next] 72
 b2:Mem.Blk W (w.heap.size+1) #[.slice none 0 0, .slice none 0 0, .slice none 0 0, .int .i64 0] 28
 b3:Mem.Blk W (w.heap.size+2) O 28
theorem Tk.call {w W W':World} {q:Nat} {sa ta:Option Addr} {sc tc:Nat} {s:Pl.Sp} {O:Array Value} (h:Tk w W q sa ta sc tc s O) (b:Below W.heap.size W W'):Tk w W' q sa ta sc tc s O:=⟨h.bel.trans (b.mono h.bel.size),h.b1.call b,h.b2.call b,h.b3.call b⟩
theorem Tk.put {w W:World} {q:Nat} {sa ta:Option Addr} {sc tc:Nat} {s:Pl.Sp} {O:Array Value} (h:Tk w W q sa ta sc tc s O) (k:Nat) (v:Value):Tk w (W.setCell ⟨w.heap.size+2,k,none⟩ v) q sa ta sc tc s (O.setIfInBounds k v):=
 ⟨h.bel.setCell (by show w.heap.size≤w.heap.size+2;omega) _,h.b1.far _ _ (by show w.heap.size≠w.heap.size+2;omega),h.b2.far _ _ (by show w.heap.size+1≠w.heap.size+2;omega),h.b3.put k v⟩
theorem Tk.grown {w W W':World} {q:Nat} {sa ta:Option Addr} {sc tc:Nat} {s:Pl.Sp} {O:Array Value} {r:Option Nat} (h:Tk w W q sa ta sc tc s O) (g:W.grownBy W' r) (hr:∀b,r=some b→w.heap.size+2<b):Tk w W' q sa ta sc tc s O:=
 ⟨⟨g.os.trans h.bel.os,g.tape.trans h.bel.tape,g.output.trans h.bel.output,Nat.le_trans h.bel.size g.size,fun j hj=>(g.block j (Nat.lt_of_lt_of_le hj h.bel.size) (fun e=>by have :=hr j e.symm;omega)).trans (h.bel.block j hj)⟩,h.b1.grown g (fun e=>by have :=hr _ e.symm;omega),h.b2.grown g (fun e=>by have :=hr _ e.symm;omega),h.b3.grown g (fun e=>by have :=hr _ e.symm;omega)⟩
def ids (w:World) (lo hi:Nat) (a:Option Addr) (L:List Int):Prop:=∀ (i:Nat) x,L[i]? =some x→∃b,a=some ⟨b,0,none⟩∧lo<b∧b<hi∧w.cell? ⟨b,i,none⟩=some (.int .i64 x)
theorem ids_same {w w':World} {lo hi:Nat} {a:Option Addr} {L:List Int} (h:ids w lo hi a L) (hb:∀b,lo<b→b<hi→w'.heap[b]? =w.heap[b]?):ids w' lo hi a L:=fun i x hx=>by
 obtain ⟨b,h1,h2,h3,h4⟩:=h i x hx;exact ⟨b,h1,h2,h3,(WMkJ.zf0 (hb b h2 h3)).trans h4⟩
theorem ids_row {w:World} {S n cap:Nat} {a:Option Addr} {L:List Int} {T:TypeId} (h:w.ownsRow S T 1 (.slice a n cap) n (L.map (Value.int .i64))):ids w (S - 1) w.heap.size a L∨S=0:=by
 rcases Nat.eq_zero_or_pos S with e|e
 ·exact .inr e
 refine .inl fun i x hx=>?_
 rcases h.2 with ⟨e,h0⟩|⟨g,c,cur,e,hb,hg,hc,hm,hsz,ht⟩
 ·cases e
  have :=h.1;rw [List.length_map] at this;have :=(List.getElem?_eq_some_iff.1 hx).1;omega
 ·cases e
  refine ⟨g,rfl,by omega,(Array.getElem?_eq_some_iff.1 hg).1,?_⟩;have :=World.ownsRow.cells h (g:=g) rfl i (.int .i64 x) (by rw [List.getElem?_map,hx];rfl);rw [Mem.add_lit] at this;exact this
theorem new_cells (w:World) (cs:List Value) (T:TypeId):∀j u,cs[j]? =some u→(w.alloc (.cells cs.toArray T)).cell? ((⟨w.heap.size,0,none⟩:Addr).add j)=some u:=fun j u hj=>by
 rw [Mem.add_lit,cell_of_row _ _ _ _ _ (0,0) (heap_alloc_new w _),List.getElem?_toArray];exact hj
theorem text_new (w:World) (t:ByteArray):Mem.Var (w.alloc (.cells #[.string t] 9)) w.heap.size [.string t]:=
 ⟨(Mem.Blk.new w _ _).lt,fun k u h=>((Mem.Blk.new w #[.string t] 9).cell k).trans (by rw [List.getElem?_toArray];exact h)⟩
theorem nest_of {W:World} {B:Nat} {E:List (Int × Pl.Nv)} {N:List Pl.Ns} (h:Mem.ze0 W B E N) (he:E.map (·.1)=N.map (·.d)) (hp:(N.map (·.d)).Pairwise (· ≠ ·)) {k:Nat} {x:Pl.Ns} (hx:N[k]? =some x):Mem.zh0 W B (Pl.getN E x.d) (x.Is.map Pl.It.r):=by
 obtain ⟨y,h1,h2, -⟩:=(Pl.nestAt_get (P:=fun v z=>Mem.zh0 W B v (z.Is.map Pl.It.r)) E N x.d he (fun i z hz=>by
  obtain ⟨x',k1, -,k3⟩:=h i z hz
  exact ⟨x',k1,k3⟩)).2 (by rw [he];exact List.mem_map.2 ⟨x,List.mem_of_getElem? hx,rfl⟩)
 have key:∀ (N:List Pl.Ns) (k:Nat),(N.map (·.d)).Pairwise (· ≠ ·)→N[k]? =some x→Pl.zt1 (N.map Pl.Ns.r) x.d=some (x.Is.map Pl.It.r):=by
  intro N
  induction N with
  |nil=>intro k _ h;cases h
  |cons z N ih=>
   intro k hp hk;rw [List.map_cons,List.pairwise_cons] at hp;rw [List.map_cons,Pl.zt1];cases k with
   |zero=>simp at hk;subst hk;rw [if_pos (show z.r.1=z.d from rfl)];rfl
   |succ k=>
    have hk2:N[k]? =some x:=by simpa using hk
    rw [if_neg (show ¬z.r.1=x.d from hp.1 x.d (List.mem_map.2 ⟨x,List.mem_of_getElem? hk2,rfl⟩))];exact ih k hp.2 hk2
 rw [key N k hp hx] at h1;rw [Option.some.inj h1];exact h2
end SpO
end
section

theorem zw5 {P:Program} {code:Code} {Q:Exit→Act→World→Prop} {T:Array Value} {D:List _} {w:World} (R:Array Value→Array Value→World→Prop)
  (h:code.wp P (fun e a W=>e= .normal∧a.defers=D∧R T a.tmps W) ⟨T,D⟩ w) (h2:∀T' W,R T T' W→Q .normal ⟨T',D⟩ W):code.wp P Q ⟨T,D⟩ w:=
 Code.wp_mono (fun e a W ⟨h1,h3,h4⟩=>by
  obtain ⟨t,d⟩:=a;simp only at h3;subst h1 h3
  exact h2 _ _ h4) h
end
end Go.Proofs.YtggadpalljhiaaaGreatDoor
