/- Several texts of one claim in one file: MemBand, MemWk. -/
import Derived.Test.YtpggbphcbcogdaaGreatDoorG30
namespace Go.Proofs.YtpggbphcbcogdaaGreatDoor
section
open Go.RowKit
namespace Mem
structure Band (Y X:Nat) (w w':World):Prop where
 os:w'.os=w.os
 tape:w'.tape=w.tape
 output:w'.output=w.output
 size:w.heap.size≤w'.heap.size
 block:∀j,j<w.heap.size→(j<Y∨X≤j)→w'.heap[j]? =w.heap[j]?
theorem Band.refl (Y X:Nat) (w:World):Band Y X w w:=⟨rfl,rfl,rfl,Nat.le_refl _,fun _ _ _=>rfl⟩
theorem Band.of_below {Y X:Nat} {w w':World} (b:Below w.heap.size w w'):Band Y X w w':=⟨b.os,b.tape,b.output,b.size,fun j hj _=>b.block j hj⟩
theorem Band.of_grown {Y X g:Nat} {w w':World} (b:w.grownBy w' (some g)) (h1:Y≤g) (h2:g<X):Band Y X w w':=⟨b.os,b.tape,b.output,b.size,fun j hj hh=>b.block j hj (fun e=>by cases e;omega)⟩
theorem Band.trans {Y X:Nat} {w v v':World} (h:Band Y X w v) (h':Band Y X v v'):Band Y X w v':=
 ⟨h'.os.trans h.os,h'.tape.trans h.tape,h'.output.trans h.output,Nat.le_trans h.size h'.size,fun j hj hh=>(h'.block j (Nat.lt_of_lt_of_le hj h.size) hh).trans (h.block j hj hh)⟩
theorem Band.below {Y X B:Nat} {w v v':World} (h:Band Y X v v') (b:Below B w v) (hB:B≤Y) (hs:B≤v.heap.size):Below B w v':=
 ⟨h.os.trans b.os,h.tape.trans b.tape,h.output.trans b.output,Nat.le_trans b.size h.size,fun j hj=>(h.block j (by omega) (.inl (by omega))).trans (b.block j hj)⟩
theorem Band.blk {Y X g:Nat} {w w':World} {cs:Array Value} {T:TypeId} (h:Band Y X w w') (hb:Blk w g cs T) (hg:g<Y∨X≤g):Blk w' g cs T:=(h.block g hb.lt hg).trans hb
theorem Band.row {Y X B e size n:Nat} {w w':World} {v:Value} {xs:List Value} (h:Band Y X w w') (o:w.ownsRow B e size v n xs) (hg:∀g,v.ownBlock=some g→g<Y∨X≤g):w'.ownsRow B e size v n xs:=by
 refine ⟨o.1,?_⟩
 rcases o.2 with h0|⟨g,cap,cur,rfl,hb,hh,rest⟩
 ·exact .inl h0
 ·exact .inr ⟨g,cap,cur,rfl,hb,(h.block g (Array.getElem?_eq_some_iff.1 hh).1 (hg g rfl)).trans hh,rest⟩
theorem Band.of_set {Y X:Nat} {w:World} (p:Addr) (v:Value) (h1:Y≤p.block) (h2:p.block<X):Band Y X w (w.setCell p v):=
 have b:Below 0 w (w.setCell p v):=(Below.refl 0 w).setCell (Nat.zero_le _) v
 ⟨b.os,b.tape,b.output,b.size,fun j _ hh=>heap_setCell_other _ _ _ _ (by omega)⟩
end Mem
end
section
open Go.RowKit
namespace Mem
theorem Band.set {Y X:Nat} {w w':World} (h:Band Y X w w') {p:Addr} (hp:w.heap.size≤p.block) (v:Value):Band Y X w (w'.setCell p v):=
 ⟨h.os,h.tape,h.output,by simpa using h.size,fun j hj hh=>(heap_setCell_other _ _ _ _ (by omega)).trans (h.block j hj hh)⟩
theorem Band.call {Y X:Nat} {w v v':World} (h:Band Y X w v) (b:Below v.heap.size v v'):Band Y X w v':=h.trans (Band.of_below b)
theorem Band.alloc {Y X:Nat} {w v:World} (h:Band Y X w v) (o:Obj):Band Y X w (v.alloc o):=h.call ((Below.refl _ _).alloc (Nat.le_refl _) o)
theorem Band.grown {Y X g:Nat} {w v v':World} (h:Band Y X w v) (b:v.grownBy v' (some g)) (hg:w.heap.size≤g):Band Y X w v':=
 ⟨b.os.trans h.os,b.tape.trans h.tape,b.output.trans h.output,Nat.le_trans h.size b.size,fun j hj hh=>(b.block j (Nat.lt_of_lt_of_le hj h.size) (fun e=>by cases e;omega)).trans (h.block j hj hh)⟩
theorem Band.wide {Y X Y' X':Nat} {w w':World} (h:Band Y X w w') (h1:Y'≤Y) (h2:X≤X'):Band Y' X' w w':=
 ⟨h.os,h.tape,h.output,h.size,fun j hj hh=>h.block j hj (by omega)⟩
end Mem
namespace WWk
def walkV (p:Nat):Value:= .iface 133 (.pointer (some ⟨p,0,none⟩))
def zg8 (x:Nat):Value:= .func (.func 91) #[] #[.pointer (some ⟨x,0,none⟩)]
structure Same (B lo hi:Nat) (W W':World):Prop where
 size:W.heap.size≤W'.heap.size
 block:∀b,b<W.heap.size→(b<B∨(lo≤b∧b<hi))→W'.heap[b]? =W.heap[b]?
def Ask (W:World) (v:Value) (q:ByteArray) (o:Option Pl.Nd) (lo hi:Nat) (Q:World→Prop):Prop:=
 ∃T x F r,v= .iface T x∧(∀m w,(method (m+1) T x "loop.example/g00449/impl.at").run Tryz.prog w= .ok (F,r) w)∧(∀w,(callFunc F #[r, .string q]).run Tryz.prog w= .ok (.enter F #[r, .string q]) w)∧
  Calls Tryz.prog F #[r, .string q] W fun e w'=>e= .returned (.tuple #[(o.getD Pl.za3).val, .bool o.isSome])∧Mem.Band lo hi W w'∧Q w'
structure Lv (W:World) (B lo hi x g n cap:Nat) (vs:Nat→Value) (bl bh:Nat→Nat):Prop where
 base:B≤lo
 xin:lo≤x∧x<hi
 gin:lo≤g∧g<hi
 size:hi≤W.heap.size
 box:Mem.Blk W x #[.slice (some ⟨g,0,none⟩) n cap] 132
 row:∀i,i<n→W.cell? ⟨g,i,none⟩=some (vs i)
 band:∀i,i<n→lo≤bl i∧bl i≤bh i∧bh i≤hi
 farX:∀i,i<n→x<bl i∨bh i≤x
 farG:∀i,i<n→g<bl i∨bh i≤g
 apart:∀i j,i<n→j<n→i≠j→bh i≤bl j∨bh j≤bl i
theorem Lv.keep {W W':World} {B lo hi x g n cap:Nat} {vs:Nat→Value} {bl bh:Nat→Nat} (h:Lv W B lo hi x g n cap vs bl bh) (hs:W.heap.size≤W'.heap.size) (hx:W'.heap[x]? =W.heap[x]?) (hg:W'.heap[g]? =W.heap[g]?):Lv W' B lo hi x g n cap vs bl bh:=
 ⟨h.base,h.xin,h.gin,Nat.le_trans h.size hs,hx.trans h.box,fun i hi=>(World.cell?_of_block hg).trans (h.row i hi),h.band,h.farX,h.farG,h.apart⟩
structure Sv (N:Nat) (W:World) (B lo hi x g n cap:Nat) (vs:Nat→Value) (bl bh:Nat→Nat) (hv:List Bool) (P Q:Nat→World→Prop) (j:Nat) (have':List Bool):Prop where
 lv:Lv W B lo hi x g n cap vs bl bh
 hiN:hi≤N
 NW:N≤W.heap.size
 todo:∀i,j≤i→i<n→hv[i]? =some true→P i W
 done:∀i:Nat,have'[i]? =some true→i<n∧Q i W
def Local (B:Nat) (lo hi:Nat) (P:World→Prop):Prop:=∀W W',hi≤W.heap.size→B≤W.heap.size→P W→Same B lo hi W W'→P W'
theorem Sv.keep {N:Nat} {W W':World} {B lo hi x g n cap:Nat} {vs:Nat→Value} {bl bh:Nat→Nat} {hv:List Bool} {P Q:Nat→World→Prop} {j:Nat} {hh:List Bool} (h:Sv N W B lo hi x g n cap vs bl bh hv P Q j hh)
  (hP:∀i,i<n→Local B (bl i) (bh i) (P i)) (hQ:∀i,i<n→Local B (bl i) (bh i) (Q i)) (hs:W.heap.size≤W'.heap.size) (hb:∀b,b<N→W'.heap[b]? =W.heap[b]?):Sv N W' B lo hi x g n cap vs bl bh hv P Q j hh:=by
 have hN:=h.hiN;have hNW:=h.NW;have hbB:=h.lv.base;have hx:=h.lv.xin;have hg:=h.lv.gin;have sm:∀i,i<n→Same B (bl i) (bh i) W W':=fun i hi=>⟨hs,fun b _ hh=>hb b (by have :=h.lv.band i hi;omega)⟩
 exact ⟨h.lv.keep hs (hb x (by omega)) (hb g (by omega)),h.hiN,Nat.le_trans h.NW hs,fun i h1 h2 h3=>hP i h2 W W' (by have :=h.lv.band i h2;omega) (by omega) (h.todo i h1 h2 h3) (sm i h2),
  fun i h1=>⟨(h.done i h1).1,hQ i (h.done i h1).1 W W' (by have :=h.lv.band i (h.done i h1).1;omega) (by omega) (h.done i h1).2 (sm i (h.done i h1).1)⟩⟩
theorem Sv.call {N:Nat} {W W':World} {B lo hi x g n cap:Nat} {vs:Nat→Value} {bl bh:Nat→Nat} {hv:List Bool} {P Q:Nat→World→Prop} {j:Nat} {hh:List Bool} (h:Sv N W B lo hi x g n cap vs bl bh hv P Q j hh)
  (hP:∀i,i<n→Local B (bl i) (bh i) (P i)) (hQ:∀i,i<n→Local B (bl i) (bh i) (Q i)) (b:Below W.heap.size W W'):Sv N W' B lo hi x g n cap vs bl bh hv P Q j hh:=
 h.keep hP hQ b.size (fun i hi=>b.block i (by have :=h.NW;omega))
theorem Sv.grown {N X:Nat} {W W':World} {B lo hi x g n cap:Nat} {vs:Nat→Value} {bl bh:Nat→Nat} {hv:List Bool} {P Q:Nat→World→Prop} {j:Nat} {hh:List Bool} (h:Sv N W B lo hi x g n cap vs bl bh hv P Q j hh)
  (hP:∀i,i<n→Local B (bl i) (bh i) (P i)) (hQ:∀i,i<n→Local B (bl i) (bh i) (Q i)) (b:W.grownBy W' (some X)) (hX:N≤X):Sv N W' B lo hi x g n cap vs bl bh hv P Q j hh:=
 h.keep hP hQ b.size (fun i hi=>b.block i (by have :=h.NW;omega) (fun e=>by cases e;omega))
theorem Sv.skip {N:Nat} {W:World} {B lo hi x g n cap:Nat} {vs:Nat→Value} {bl bh:Nat→Nat} {hv:List Bool} {P Q:Nat→World→Prop} {j:Nat} {hh:List Bool} (h:Sv N W B lo hi x g n cap vs bl bh hv P Q j hh):Sv N W B lo hi x g n cap vs bl bh hv P Q (j+1) hh:=
 ⟨h.lv,h.hiN,h.NW,fun i h1=>h.todo i (by omega),h.done⟩
theorem Sv.ask {N:Nat} {W W':World} {B lo hi x g n cap:Nat} {vs:Nat→Value} {bl bh:Nat→Nat} {hv:List Bool} {P Q:Nat→World→Prop} {j:Nat} {hh:List Bool} (h:Sv N W B lo hi x g n cap vs bl bh hv P Q j hh)
  (hP:∀i,i<n→Local B (bl i) (bh i) (P i)) (hQ:∀i,i<n→Local B (bl i) (bh i) (Q i)) (hj:j<n) (b:Mem.Band (bl j) (bh j) W W') (q:Q j W'):Sv N W' B lo hi x g n cap vs bl bh hv P Q (j+1) hh:=by
 have hN:=h.hiN;have hNW:=h.NW;have hx:=h.lv.xin;have hg:=h.lv.gin;have hB:=h.lv.base;have sm:∀i,i<n→i≠j→Same B (bl i) (bh i) W W':=fun i hi hne=>⟨b.size,fun c hc hh=>b.block c hc (by have h1:=h.lv.band j hj;have h2:=h.lv.apart i j hi hj hne;have h3:=h.lv.band i hi;omega)⟩;refine ⟨h.lv.keep b.size (b.block x (by omega) (h.lv.farX j hj)) (b.block g (by omega) (h.lv.farG j hj)),h.hiN,Nat.le_trans h.NW b.size,fun i h1 h2 h3=>hP i h2 W W' (by have :=h.lv.band i h2;omega) (by omega) (h.todo i (by omega) h2 h3) (sm i h2 (by omega)),fun i h1=>?_⟩;obtain ⟨h2,h3⟩:=h.done i h1;by_cases e:i=j
 ·subst e;exact ⟨h2,q⟩
 ·exact ⟨h2,hQ i h2 W W' (by have :=h.lv.band i h2;omega) (by omega) h3 (sm i h2 e)⟩
theorem Sv.take {N:Nat} {W:World} {B lo hi x g n cap:Nat} {vs:Nat→Value} {bl bh:Nat→Nat} {hv:List Bool} {P Q:Nat→World→Prop} {j k:Nat} {s:Pl.Sg} (h:Sv N W B lo hi x g n cap vs bl bh hv P Q j s.have') (hk:k<n) (q:Q k W) (m:Pl.Nd):Sv N W B lo hi x g n cap vs bl bh hv P Q j (Pl.zc2 s k m).have':=by
 refine ⟨h.lv,h.hiN,h.NW,h.todo,fun i hi=>?_⟩;simp only [Pl.zc2] at hi;by_cases e:i=k
 ·subst e;exact ⟨hk,q⟩
 ·rw [List.getElem?_set_ne (fun h=>e h.symm)] at hi;exact h.done i hi
theorem up_have {s:Pl.Sg} {i:Nat} (h:(Pl.upS s).have'[i]? =some true):s.have'[i]? =some true:=by
 unfold Pl.upS at h
 split at h
 ·exfalso;have :∀b∈Pl.Sg.zero.have',b=false:=by decide
  have :=this true (List.mem_of_getElem? h);cases this
 ·exact h
end WWk
end
end Go.Proofs.YtpggbphcbcogdaaGreatDoor
