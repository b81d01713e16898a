/- Several texts of one claim in one file: WOrder, WCopied. -/
import Derived.Test.YtonffldjbmednaaGreatDoorG01
import Derived.Test.YtonffldjbmednaaGreatDoorG02
import Derived.Test.YtonffldjbmednaaGreatDoorG08
import Derived.Test.YtonffldjbmednaaGreatDoorG21
import Derived.Lib.QuietBelow
import Derived.Test.YtonffldjbmednaaGreatDoorG05
import Derived.Test.YtonffldjbmednaaGreatDoorG00
import Derived.Test.YtonffldjbmednaaGreatDoorG12
namespace Go.Proofs.YtonffldjbmednaaGreatDoor
section
open Go.RowKit Go.Sort
namespace WOrder
theorem grow_of {w w':World} (h:Go.RowKit.Below w.heap.size w w') (hd:w.drawn≤w'.drawn):∃q os',w'=grow (w.drewN q) os':=by
 obtain ⟨⟨d,os⟩,e⟩:=regrown_of_below h;have e2:w'.drawn=d:=by rw [e];rfl
 refine ⟨d - w.drawn,os,?_⟩;rw [e];show grow (redrawn w d) os=grow (w.drewN (d - w.drawn)) os;unfold redrawn World.drewN;rw [show w.drawn+(d - w.drawn)=d by omega]
abbrev Rn:={n:Pl.Nd // Pl.za2 n.path=true}
def cf (x y:Rn):Int:=if Pl.ltP x.1.path y.1.path then -1 else if Pl.ltP y.1.path x.1.path then 1 else 0
theorem lt_cf (x y:Rn):ltOf cf x y=Pl.ltP x.1.path y.1.path:=by
 unfold ltOf cf;cases Pl.ltP x.1.path y.1.path
 ·cases Pl.ltP y.1.path x.1.path <;> rfl
 ·rfl
theorem lt_anti {x y:Rn} (h:x.1.path≠y.1.path):Pl.ltP x.1.path y.1.path= !Pl.ltP y.1.path x.1.path:=Pl.two_less x.2 y.2 h
theorem lt_irr (x:Rn):Pl.ltP x.1.path x.1.path=false:=by rw [Pl.ze x.2 x.2];exact Pl.zj1 _
theorem lt_tr {x y z:Rn} (h1:Pl.ltP x.1.path y.1.path=true) (h2:Pl.ltP y.1.path z.1.path=true):Pl.ltP x.1.path z.1.path=true:=by
 rw [Pl.ze x.2 y.2] at h1;rw [Pl.ze y.2 z.2] at h2;rw [Pl.ze x.2 z.2];exact Pl.zg2 _ _ _ h1 h2
theorem swo:SWO (ltOf cf) where
 irrefl x:=by rw [lt_cf];exact lt_irr x
 trans x y z h1 h2:=by rw [lt_cf] at *;exact lt_tr h1 h2
 ntrans x y z h1 h2:=by
  rw [lt_cf] at *;cases h:Pl.ltP x.1.path z.1.path
  ·rfl
  ·exfalso;by_cases e:x.1.path=y.1.path
   ·rw [←e,h] at h2;cases h2
   ·have a:=lt_anti e;rw [h1] at a
    have b:Pl.ltP y.1.path x.1.path=true:=by
     cases hb:Pl.ltP y.1.path x.1.path
     ·rw [hb] at a;cases a
     ·rfl
    rw [lt_tr b h] at h2;cases h2
def cfP (p q:ByteArray):Int:=if Pl.ltP p q then -1 else if Pl.ltP q p then 1 else 0
set_option maxRecDepth 100000 in
theorem order_path (p q:ByteArray) (hp:Pl.za2 p=true) (hq:Pl.za2 q=true) (w:World):
  Calls Tryz.prog 138 #[.string p, .string q] w fun e w'=>e= .returned (.int .i64 (cfP p q))∧Go.RowKit.Below w.heap.size w w':=by
 have h1:=hide (fun W=>WLess.zw7 p q W (by have :=Pl.zh9 hp;omega) (by have :=Pl.zh9 hq;omega));have h2:=hide (fun W=>WLess.zw7 q p W (by have :=Pl.zh9 hq;omega) (by have :=Pl.zh9 hp;omega))
 change Hid (∀W,Calls Tryz.prog _ _ W fun e w'=>e= .returned (.bool (Pl.ltP p q))∧_) at h1
 change Hid (∀W,Calls Tryz.prog _ _ W fun e w'=>e= .returned (.bool (Pl.ltP q p))∧_) at h2
 unfold cfP;generalize Pl.ltP p q=r1 at h1 ⊢;generalize Pl.ltP q p=r2 at h2 ⊢;clear hp hq;cases r1
 ·go_enter Tryz.func138,Tryz.ntmps138
  go_wp2_with fail
  refine (za h1 _).mono ?_;rintro e w1 ⟨rfl,b1⟩;clear h1;go_wp2_with fail
  refine (za h2 _).mono ?_;rintro e w3 ⟨rfl,b3⟩;have b4:=b1.trans (b3.mono b1.size);clear b1 b3 h2;cases r2
  ·go_wp2
   go_ret
   exact ⟨rfl,b4⟩
  ·go_wp2
   go_ret
   exact ⟨rfl,b4⟩
 ·clear h2;go_enter Tryz.func138,Tryz.ntmps138
  go_wp2_with fail
  refine (za h1 _).mono ?_;rintro e w1 ⟨rfl,b1⟩;clear h1;go_wp2
  go_ret
  exact ⟨rfl,b1⟩
set_option maxRecDepth 100000 in
theorem order_any (x y:Rn) (w:World):
  Calls Tryz.prog 137 #[.agg x.1.cs.toArray, .agg y.1.cs.toArray] w fun e w'=>e= .returned (.int .i64 (cf x y))∧Go.RowKit.Below w.heap.size w w':=by
 have h1:=hide (fun W=>order_path x.1.path y.1.path x.2 y.2 W);have e1:cf x y=cfP x.1.path y.1.path:=rfl;rw [e1];generalize cfP x.1.path y.1.path=r at h1 ⊢;obtain ⟨⟨p,k,d,t,m⟩,hx⟩:=x;obtain ⟨⟨p',k',d',t',m'⟩,hy⟩:=y;simp only [Pl.Nd.cs] at h1 ⊢;have b0:Go.RowKit.Below w.heap.size w ((w.alloc (.cells #[.string p, .int .i64 k, .string d, .int .i64 t, .int .i64 m] 189)).alloc (.cells #[.string p', .int .i64 k', .string d', .int .i64 t', .int .i64 m'] 189)):=((Below.refl _ _).alloc (Nat.le_refl _) _).alloc (by simp) _;clear hx hy e1;go_enter Tryz.func137,Tryz.ntmps137
 go_wp2_with fail
 refine (za h1 _).mono ?_;rintro e w1 ⟨rfl,b1⟩;have b2:=b0.trans (b1.mono b0.size);clear b0 b1 h1;go_wp2
 go_ret
 exact ⟨rfl,b2⟩
theorem cmp_lays (blk off size:Nat) (w:World) [Inhabited Rn]:CmpLays Tryz.prog 137 #[] (fun x:Rn=>x.1.cs) 5 cf blk off size w:=fun m os dk _ x y=>by
 have h:=Drw.calls_up (fun e w' (h:e= .returned (.int .i64 (cf x y))∧_)=>⟨_,h.1⟩) (order_any x y (sortWorldK (fun x:Rn=>x.1.cs) 5 w blk off m dk os));exact h.mono fun e w' ⟨⟨he,hb⟩,hd⟩=>⟨he,grow_of hb hd⟩
theorem heap_sorted {α:Type} [Inhabited α] (enc:α→List Value) (w:World) (g n:Nat) (d:Array α) (os:Array Obj) (cur:Array Value) (T:TypeId) (hg:w.heap[g]? =some (.cells cur T (0,0))):
  (sortWorldK enc 5 w g 0 n d os).heap[g]? =some (.cells (putCells id 0 (flatK enc 5 d) cur) T (0,0)):=by
 have hlt:g<w.heap.size:=(Array.getElem?_eq_some_iff.1 hg).1;unfold sortWorldK grow putRowK putRow mapBlock;simp only [Array.getElem?_append,Array.size_modify];rw [if_pos (show g<(Sort.ahead w n).heap.size from hlt),Array.getElem?_modify,if_pos rfl];show Option.map _ (w.heap[g]?)=_;rw [hg];rfl
theorem grown_sorted {α:Type} [Inhabited α] (enc:α→List Value) (w:World) (g n:Nat) (d:Array α) (os:Array Obj):w.grownBy (sortWorldK enc 5 w g 0 n d os) (some g):=by
 refine ⟨rfl,rfl,rfl,?_,fun j hj hne=>?_⟩
 ·unfold sortWorldK grow putRowK putRow mapBlock;simp only [Array.size_append,Array.size_modify];exact Nat.le_add_right _ _
 ·have h:j≠g:=fun e=>hne (by rw [e]);unfold sortWorldK grow putRowK putRow mapBlock;simp only [Array.getElem?_append,Array.size_modify];rw [if_pos (show j<(Sort.ahead w n).heap.size from hj),Array.getElem?_modify,if_neg (fun e=>h e.symm)];rfl
theorem flat_get (d:Array Rn) [Inhabited Rn] (t:Nat) (h:t<d.size*5):(flatK (fun x:Rn=>x.1.cs) 5 d)[t]! =(Pl.zd1 (d.toList.map (·.1)))[t]! :=by
 rw [get_flatK _ _ _ _ h];have hd:t / 5<d.size:=by omega
 have e:(d.toList.map (·.1))[t / 5]? =some (d[t / 5]!).1:=by
  rw [List.getElem?_map,Array.getElem?_toList,Array.getElem?_eq_getElem hd,getElem!_pos d _ hd];rfl
 have h2:=Pl.zw1 _ _ _ e (t % 5) (by omega);rw [show t / 5*5+t % 5=t by omega] at h2;rw [List.getElem!_eq_getElem?_getD,List.getElem!_eq_getElem?_getD,h2]
theorem sort_any (g cap B:Nat) (T:List Pl.Nd) (w:World) (hp:∀t∈T,Pl.za2 t.path=true) (hl:T.length≤1048576) (hown:Mem.ownN w B (.slice (some ⟨g,0,none⟩) T.length cap) T):
  Calls Tryz.prog 136 #[.slice (some ⟨g,0,none⟩) T.length cap, .func (.func 137) #[] #[]] w fun e w'=>e= .returned (.tuple #[])∧
   ∃S:List Pl.Nd,S.Perm T∧S.Pairwise (fun a b=>Pl.ltP b.path a.path=false)∧Mem.ownN w' B (.slice (some ⟨g,0,none⟩) T.length cap) S∧w.grownBy w' (some g):=by
 by_cases h0:T=[]
 ·subst h0;refine Calls.mono (AnyF.slices_SortFunc_none (P:=Tryz.prog) zq4.lay (some ⟨g,0,none⟩) cap (.func (.func 137) #[] #[]) w) ?_;rintro e w' ⟨he,rfl⟩;exact ⟨he,[],List.Perm.refl _,List.Pairwise.nil,hown,⟨rfl,rfl,rfl,Nat.le_refl _,fun _ _ _=>rfl⟩⟩
 obtain ⟨t0,ht0⟩:=List.exists_mem_of_ne_nil T h0
 letI:Inhabited Rn:=⟨⟨t0,hp t0 ht0⟩⟩
 rcases hown.2 with ⟨e, -⟩|⟨g',cap',cur,e,hb,hg,hc,hm,hsz,ht⟩
 ·cases e
 injection e with e1 e2 e3
 cases e1
 subst e3
 let d:Array Rn:=(T.attach.map (fun t=>(⟨t.1,hp t.1 t.2⟩:Rn))).toArray
 have hd:d.toList.map (·.1)=T:=by simp [d]
 have hds:d.size=T.length:=by simp [d]
 have hcur:T.length*5≤cur.size:=by rw [hsz];exact Nat.mul_le_mul_right _ hc
 have hH:HoldsK (fun x:Rn=>x.1.cs) 5 w g 0 d:=by
  intro j hj;rw [size_flatK,hds] at hj;refine ⟨?_,Mem.zb1 hg⟩;rw [cell_of_row w g _ cur _ (0,0) hg,Nat.zero_add,flat_get d j (by omega),hd,id_eq];have h1:(Pl.zd1 T)[j]? =cur[j]?:=by rw [←ht,List.getElem?_take_of_lt (by omega),Array.getElem?_toList]
  rw [←h1,List.getElem!_eq_getElem?_getD,List.getElem?_eq_getElem (by rw [Pl.zl];omega)];rfl
 have hcon:=AnyQ.slices_SortFunc (P:=Tryz.prog) zq4.lay 5 zq4.agg zq4.size (fun x:Rn=>x.1.cs) (fun _=>rfl) (fun x=>Mem.cs_one x.1) cf swo 137 #[] g 0 cap d w (enters_of Tryz.func137 (by kernel_rfl) rfl) (cmp_lays g 0 d.size w) hH (Array.getElem?_eq_some_iff.1 hg).1 (by omega);rw [hds] at hcon;refine Calls.mono hcon ?_;rintro e w' ⟨he,d',n,os,hperm,hsort,rfl⟩;have hs':d'.size=T.length:=hperm.1.trans hds;refine ⟨he,d'.toList.map (·.1),?_,?_,?_,grown_sorted _ w g n d' os⟩
 ·have h:=hperm.2.2;rw [←hds] at h;have e1:(d'.extract 0 d.size).toList=d'.toList:=by simp [hperm.1.symm]
  have e2:(d.extract 0 d.size).toList=d.toList:=by simp
  rw [e1,e2] at h;have :=h.map (·.1)
  rwa [hd] at this
 ·rw [List.pairwise_map,List.pairwise_iff_getElem];intro i j hi hj hij;have h:=hsort i j (Nat.zero_le _) hij (by simp at hj;omega);rw [lt_cf,getElem!_pos d' i (by simpa using hi),getElem!_pos d' j (by simpa using hj)] at h
  simpa using h
 ·have hlen:(d'.toList.map (·.1)).length=T.length:=by simp [hs']
  refine ⟨?_, .inr ⟨g,cap,_,?_,hb,heap_sorted _ w g n d' os cur _ hg,?_,hm,?_,?_⟩⟩
  ·rw [Pl.zl]
  ·rw [hlen]
  ·rw [hlen];exact hc
  ·simp only [putCells,Array.size_mapIdx];exact hsz
  ·rw [hlen]
   apply List.ext_getElem?
   intro j;by_cases hj:j<T.length*5
   ·rw [List.getElem?_take_of_lt hj,Array.getElem?_toList];have h1:(flatK (fun x:Rn=>x.1.cs) 5 d')[j]! =(Pl.zd1 (d'.toList.map (·.1)))[j]! :=flat_get d' j (by omega);rw [putCells,Array.getElem?_mapIdx,Array.getElem?_eq_getElem (by omega)];simp only [Option.map_some,size_flatK,Nat.zero_le,true_and,Nat.zero_add,Nat.sub_zero,id_eq];rw [if_pos (by omega),h1,List.getElem!_eq_getElem?_getD,List.getElem?_eq_getElem (by rw [Pl.zl,hlen];omega)];rfl
   ·rw [List.getElem?_eq_none (by rw [List.length_take];omega),List.getElem?_eq_none (by rw [Pl.zl,hlen];omega)]
end WOrder
end
section
open Go.RowKit
namespace WCopied
theorem join1 (t:ByteArray) (b:Nat) (w:World) (ht:t.size≤1048576) (hv:Mem.Var w b [.string t]):
  Calls Tryz.prog 70 #[.slice (some ⟨b,0,none⟩) 1 1] w fun e w'=>e= .returned (.string t)∧Below w.heap.size w w':=by
 have h:=WJoin.any b 0 1 [t] w (by simp) (by rw [Pl.tot_one];omega) (fun j u hj=>by
  match j,hj with
  |0,hj=>simp at hj;subst hj;exact hv.2 0 _ rfl
  |j+1,hj=>simp at hj) hv.1
 rw [Pl.cat_one,show (⟨t.data.toList.toArray⟩:ByteArray)=t by simp] at h;exact h
def Held (w:World) (n:Pl.Nd) (W:World):Prop:=
 Below w.heap.size w W∧W.heap[w.heap.size]? =some (.cells #[.string n.path, .int .i64 n.kind, .string n.data, .int .i64 n.time, .int .i64 n.mark] 189 (0,0))∧W.heap[w.heap.size+1]? =some (.cells #[.string ⟨#[]⟩, .int .i64 0, .string ⟨#[]⟩, .int .i64 0, .int .i64 0] 189 (0,0))
theorem Held.keep {w W W':World} {n:Pl.Nd} (h:Held w n W) (b:Below W.heap.size W W'):Held w n W':=
 ⟨h.1.trans (b.mono h.1.size),(b.block _ (Array.getElem?_eq_some_iff.1 h.2.1).1).trans h.2.1,(b.block _ (Array.getElem?_eq_some_iff.1 h.2.2).1).trans h.2.2⟩
theorem Held.at {w W:World} {n:Pl.Nd} (h:Held w n W) (k:Nat):W.cell? ⟨w.heap.size,k,none⟩=(#[.string n.path, .int .i64 n.kind, .string n.data, .int .i64 n.time, .int .i64 n.mark]:Array Value)[k]?:=cell_of_row W _ k _ _ (0,0) h.2.1
theorem Held.fr {w W:World} {n:Pl.Nd} (h:Held w n W) (k:Nat):W.frozen? ⟨w.heap.size,k,none⟩=false:=Mem.zb1 h.2.1
theorem Held.zat {w W:World} {n:Pl.Nd} (h:Held w n W) (k:Nat):W.cell? ⟨w.heap.size+1,k,none⟩=(#[.string ⟨#[]⟩, .int .i64 0, .string ⟨#[]⟩, .int .i64 0, .int .i64 0]:Array Value)[k]?:=cell_of_row W _ k _ _ (0,0) h.2.2
theorem Held.zfr {w W:World} {n:Pl.Nd} (h:Held w n W) (k:Nat):W.frozen? ⟨w.heap.size+1,k,none⟩=false:=Mem.zb1 h.2.2
theorem Held.put0 {w W:World} {n:Pl.Nd} (h:Held w n W):Held w n (W.setCell ⟨w.heap.size,0,none⟩ (.string n.path)):=
 ⟨h.1.setCell (Nat.le_refl _) _,heap_setCell_same _ _ 0 _ _ _ h.2.1,(Below.heap_setCell _ _ _ _ (by show w.heap.size+1≠w.heap.size;omega)).trans h.2.2⟩
theorem Held.put2 {w W:World} {n:Pl.Nd} (h:Held w n W):Held w n (W.setCell ⟨w.heap.size,2,none⟩ (.string n.data)):=
 ⟨h.1.setCell (Nat.le_refl _) _,heap_setCell_same _ _ 2 _ _ _ h.2.1,(Below.heap_setCell _ _ _ _ (by show w.heap.size+1≠w.heap.size;omega)).trans h.2.2⟩
theorem Held.res {w WZ:World} {n:Pl.Nd} (HF:Held w n WZ):(((((WZ.setCell ⟨w.heap.size+1,0,none⟩ (.string n.path)).setCell ⟨w.heap.size+1,1,none⟩ (.int .i64 n.kind)).setCell ⟨w.heap.size+1,2,none⟩ (.string n.data)).setCell ⟨w.heap.size+1,3,none⟩ (.int .i64 n.time)).setCell ⟨w.heap.size+1,4,none⟩ (.int .i64 n.mark)).heap[w.heap.size+1]? =some (.cells #[.string n.path, .int .i64 n.kind, .string n.data, .int .i64 n.time, .int .i64 n.mark] 189 (0,0)):=(heap_setCell_same _ _ 4 _ _ _ (heap_setCell_same _ _ 3 _ _ _ (heap_setCell_same _ _ 2 _ _ _ (heap_setCell_same _ _ 1 _ _ _ (heap_setCell_same _ _ 0 _ _ _ HF.2.2)))))
set_option linter.unusedSimpArgs false in
set_option maxRecDepth 100000 in
set_option maxHeartbeats 1000000 in
theorem any (n:Pl.Nd) (w:World) (h1:n.path.size≤1048576) (h2:n.data.size≤1048576):
  Calls Tryz.prog 135 #[n.val] w fun e w'=>e= .returned n.val∧Below w.heap.size w w':=by
 have H0:Held w n ((w.alloc (.cells #[.string n.path, .int .i64 n.kind, .string n.data, .int .i64 n.time, .int .i64 n.mark] 189)).alloc (.cells #[.string ⟨#[]⟩, .int .i64 0, .string ⟨#[]⟩, .int .i64 0, .int .i64 0] 189)):=⟨((Below.refl _ _).alloc (Nat.le_refl _) _).alloc (by simp) _,(Below.heap_alloc _ _ _ (by simp)).trans (heap_alloc_new _ _),Mem.zl8 _ _ _⟩;simp only [Pl.Nd.val];go_enter Tryz.func135,Tryz.ntmps135
 go_wp2_with fail
 generalize ((w.alloc (.cells #[.string n.path, .int .i64 n.kind, .string n.data, .int .i64 n.time, .int .i64 n.mark] 189)).alloc (.cells #[.string ⟨#[]⟩, .int .i64 0, .string ⟨#[]⟩, .int .i64 0, .int .i64 0] 189))=W0 at H0 ⊢;have MK:Hid (∀W',Held w n W'→(Held w n W'∧W'.cell? ⟨w.heap.size,0,none⟩=some (.string n.path)∧W'.cell? ⟨w.heap.size,2,none⟩=some (.string n.data)∧W'.frozen? ⟨w.heap.size,0,none⟩=false∧W'.frozen? ⟨w.heap.size,2,none⟩=false)):=fun W' h=>⟨h,h.at 0,h.at 2,h.fr 0,h.fr 2⟩;refine wp_region_held_drew (S:=fun W'=>Held w n W'∧W'.cell? ⟨w.heap.size,0,none⟩=some (.string n.path)∧W'.cell? ⟨w.heap.size,2,none⟩=some (.string n.data)∧W'.frozen? ⟨w.heap.size,0,none⟩=false∧W'.frozen? ⟨w.heap.size,2,none⟩=false) (by kernel_rfl) ?_ (fun hHeld=>?_)
 ·exact za MK _ (H0.keep ⟨rfl,rfl,rfl,Nat.le_refl _,fun _ _=>rfl⟩)
 generalize W0.drew=W1 at hHeld ⊢;clear H0;refine TB 0 ?_;refine TB 1 ?_;refine TB 4 ?_;refine TB 5 ?_;refine wpAnyH_ready (rs:=[2,6]) (by kernel_rfl) (by simp) ?_;refine AllReadyH.cons rfl (fun K hK=>?_) (AllReadyH.cons rfl (fun K hK=>?_) AllReadyH.nil)
 ·go_simp
  refine hK.out _ _ ?_ (fun hHeld=>?_)
  ·exact za MK _ (hHeld.1.keep ((Below.refl _ _).alloc (Nat.le_refl _) _))
  clear hK K
  try simp only [Act.put,kBs]
  have vP:=Mem.ze5 (W1) [.string n.path] 9;refine wpAnyH_ready (rs:=[3,6]) (by kernel_rfl) (by simp) ?_;refine AllReadyH.cons rfl (fun K hK=>?_) (AllReadyH.cons rfl (fun K hK=>?_) AllReadyH.nil)
  ·go_simp
   refine (join1 n.path _ _ h1 vP).mono ?_;rintro e wX ⟨rfl,bX⟩;refine hK.out _ _ ?_ (fun hHeld=>?_)
   ·exact za MK _ (hHeld.1.keep bX)
   clear hK K
   try simp only [Act.put,kBs]
   refine TB 8 ?_;refine RN 6 fun K hK=>?_;go_simp
   refine hK.out _ _ ?_ (fun hHeld=>?_)
   ·exact za MK _ (hHeld.1.keep ((Below.refl _ _).alloc (Nat.le_refl _) _))
   clear hK K
   try simp only [Act.put,kBs]
   have vD:=Mem.ze5 (wX) [.string n.data] 9;refine RN 7 fun K hK=>?_;go_simp
   refine (join1 n.data _ _ h2 vD).mono ?_;rintro e wY ⟨rfl,bY⟩;refine hK.out _ _ ?_ (fun hHeld=>?_)
   ·exact za MK _ (hHeld.1.keep bY)
   clear hK K
   try simp only [Act.put,kBs]
   refine RN 9 fun K hK=>?_;go_simp
   refine hK.out _ _ ?_ (fun hHeld=>?_)
   ·exact za MK _ (hHeld.1.put0)
   clear hK K
   try simp only [Act.put,kBs]
   refine TB 10 ?_;refine RN 11 fun K hK=>?_;go_simp
   refine hK.out _ _ ?_ (fun hHeld=>?_)
   ·exact za MK _ (hHeld.1.put2)
   clear hK K
   try simp only [Act.put,kBs]
   refine wpAnyH_done (by kernel_rfl) ?_ _;have HF:=hHeld.1;generalize ((wY.setCell ⟨w.heap.size,0,none⟩ (.string n.path)).setCell ⟨w.heap.size,2,none⟩ (.string n.data))=WZ at HF ⊢;have q0:=HF.at 0;have q1:=HF.at 1;have q2:=HF.at 2;have q3:=HF.at 3;have q4:=HF.at 4;have z0:=HF.zat 0;have f0:=HF.zfr 0;have z1:=HF.zat 1;have f1:=HF.zfr 1;have z2:=HF.zat 2;have f2:=HF.zfr 2;have z3:=HF.zat 3;have f3:=HF.zfr 3;have z4:=HF.zat 4;have f4:=HF.zfr 4;simp only [kGs] at q0 q1 q2 q3 q4 z0 z1 z2 z3 z4;have r5:=HF.res;have d0:(((((WZ.setCell ⟨w.heap.size+1,0,none⟩ (.string n.path)).setCell ⟨w.heap.size+1,1,none⟩ (.int .i64 n.kind)).setCell ⟨w.heap.size+1,2,none⟩ (.string n.data)).setCell ⟨w.heap.size+1,3,none⟩ (.int .i64 n.time)).setCell ⟨w.heap.size+1,4,none⟩ (.int .i64 n.mark)).cell? ⟨w.heap.size+1,0,none⟩=some (.string n.path):=(cell_of_row _ _ 0 _ _ (0,0) r5).trans (by simp)
   have d1:(((((WZ.setCell ⟨w.heap.size+1,0,none⟩ (.string n.path)).setCell ⟨w.heap.size+1,1,none⟩ (.int .i64 n.kind)).setCell ⟨w.heap.size+1,2,none⟩ (.string n.data)).setCell ⟨w.heap.size+1,3,none⟩ (.int .i64 n.time)).setCell ⟨w.heap.size+1,4,none⟩ (.int .i64 n.mark)).cell? ⟨w.heap.size+1,1,none⟩=some (.int .i64 n.kind):=(cell_of_row _ _ 1 _ _ (0,0) r5).trans (by simp);have d2:(((((WZ.setCell ⟨w.heap.size+1,0,none⟩ (.string n.path)).setCell ⟨w.heap.size+1,1,none⟩ (.int .i64 n.kind)).setCell ⟨w.heap.size+1,2,none⟩ (.string n.data)).setCell ⟨w.heap.size+1,3,none⟩ (.int .i64 n.time)).setCell ⟨w.heap.size+1,4,none⟩ (.int .i64 n.mark)).cell? ⟨w.heap.size+1,2,none⟩=some (.string n.data):=(cell_of_row _ _ 2 _ _ (0,0) r5).trans (by simp)
   have d3:(((((WZ.setCell ⟨w.heap.size+1,0,none⟩ (.string n.path)).setCell ⟨w.heap.size+1,1,none⟩ (.int .i64 n.kind)).setCell ⟨w.heap.size+1,2,none⟩ (.string n.data)).setCell ⟨w.heap.size+1,3,none⟩ (.int .i64 n.time)).setCell ⟨w.heap.size+1,4,none⟩ (.int .i64 n.mark)).cell? ⟨w.heap.size+1,3,none⟩=some (.int .i64 n.time):=(cell_of_row _ _ 3 _ _ (0,0) r5).trans (by simp);have d4:(((((WZ.setCell ⟨w.heap.size+1,0,none⟩ (.string n.path)).setCell ⟨w.heap.size+1,1,none⟩ (.int .i64 n.kind)).setCell ⟨w.heap.size+1,2,none⟩ (.string n.data)).setCell ⟨w.heap.size+1,3,none⟩ (.int .i64 n.time)).setCell ⟨w.heap.size+1,4,none⟩ (.int .i64 n.mark)).cell? ⟨w.heap.size+1,4,none⟩=some (.int .i64 n.mark):=(cell_of_row _ _ 4 _ _ (0,0) r5).trans (by simp)
   have bf:Below w.heap.size w (((((WZ.setCell ⟨w.heap.size+1,0,none⟩ (.string n.path)).setCell ⟨w.heap.size+1,1,none⟩ (.int .i64 n.kind)).setCell ⟨w.heap.size+1,2,none⟩ (.string n.data)).setCell ⟨w.heap.size+1,3,none⟩ (.int .i64 n.time)).setCell ⟨w.heap.size+1,4,none⟩ (.int .i64 n.mark)):=(((((HF.1.setCell (by simp) _).setCell (by simp) _).setCell (by simp) _).setCell (by simp) _).setCell (by simp) _);clear MK hHeld r5 HF;go_wp2
   refine bodyPost_ret (v:= .agg #[.string n.path, .int .i64 n.kind, .string n.data, .int .i64 n.time, .int .i64 n.mark]) (by simp [results,Tryz.results135,go_sem,d0,d1,d2,d3,d4]) rfl ⟨rfl,bf⟩
  ·go_simp
   refine hK.out _ _ ?_ (fun hHeld=>?_)
   ·exact za MK _ (hHeld.1.keep ((Below.refl _ _).alloc (Nat.le_refl _) _))
   clear hK K
   try simp only [Act.put,kBs]
   have vD:=Mem.ze5 (W1.alloc (.cells #[.string n.path] 9)) [.string n.data] 9;rw [show (W1.alloc (.cells #[.string n.path] 9)).heap.size=W1.heap.size+1 by simp] at vD;have vP2:=Mem.var_alloc vP (.cells #[.string n.data] 9);refine RN 3 fun K hK=>?_;go_simp
   refine (join1 n.path _ _ h1 vP2).mono ?_;rintro e wX ⟨rfl,bX⟩;refine hK.out _ _ ?_ (fun hHeld=>?_)
   ·exact za MK _ (hHeld.1.keep bX)
   clear hK K
   try simp only [Act.put,kBs]
   refine TB 8 ?_;have vD2:=Mem.zi8 vD bX;refine RN 7 fun K hK=>?_;go_simp
   refine (join1 n.data _ _ h2 vD2).mono ?_;rintro e wY ⟨rfl,bY⟩;refine hK.out _ _ ?_ (fun hHeld=>?_)
   ·exact za MK _ (hHeld.1.keep bY)
   clear hK K
   try simp only [Act.put,kBs]
   refine RN 9 fun K hK=>?_;go_simp
   refine hK.out _ _ ?_ (fun hHeld=>?_)
   ·exact za MK _ (hHeld.1.put0)
   clear hK K
   try simp only [Act.put,kBs]
   refine TB 10 ?_;refine RN 11 fun K hK=>?_;go_simp
   refine hK.out _ _ ?_ (fun hHeld=>?_)
   ·exact za MK _ (hHeld.1.put2)
   clear hK K
   try simp only [Act.put,kBs]
   refine wpAnyH_done (by kernel_rfl) ?_ _;have HF:=hHeld.1;generalize ((wY.setCell ⟨w.heap.size,0,none⟩ (.string n.path)).setCell ⟨w.heap.size,2,none⟩ (.string n.data))=WZ at HF ⊢;have q0:=HF.at 0;have q1:=HF.at 1;have q2:=HF.at 2;have q3:=HF.at 3;have q4:=HF.at 4;have z0:=HF.zat 0;have f0:=HF.zfr 0;have z1:=HF.zat 1;have f1:=HF.zfr 1;have z2:=HF.zat 2;have f2:=HF.zfr 2;have z3:=HF.zat 3;have f3:=HF.zfr 3;have z4:=HF.zat 4;have f4:=HF.zfr 4;simp only [kGs] at q0 q1 q2 q3 q4 z0 z1 z2 z3 z4;have r5:=HF.res;have d0:(((((WZ.setCell ⟨w.heap.size+1,0,none⟩ (.string n.path)).setCell ⟨w.heap.size+1,1,none⟩ (.int .i64 n.kind)).setCell ⟨w.heap.size+1,2,none⟩ (.string n.data)).setCell ⟨w.heap.size+1,3,none⟩ (.int .i64 n.time)).setCell ⟨w.heap.size+1,4,none⟩ (.int .i64 n.mark)).cell? ⟨w.heap.size+1,0,none⟩=some (.string n.path):=(cell_of_row _ _ 0 _ _ (0,0) r5).trans (by simp)
   have d1:(((((WZ.setCell ⟨w.heap.size+1,0,none⟩ (.string n.path)).setCell ⟨w.heap.size+1,1,none⟩ (.int .i64 n.kind)).setCell ⟨w.heap.size+1,2,none⟩ (.string n.data)).setCell ⟨w.heap.size+1,3,none⟩ (.int .i64 n.time)).setCell ⟨w.heap.size+1,4,none⟩ (.int .i64 n.mark)).cell? ⟨w.heap.size+1,1,none⟩=some (.int .i64 n.kind):=(cell_of_row _ _ 1 _ _ (0,0) r5).trans (by simp);have d2:(((((WZ.setCell ⟨w.heap.size+1,0,none⟩ (.string n.path)).setCell ⟨w.heap.size+1,1,none⟩ (.int .i64 n.kind)).setCell ⟨w.heap.size+1,2,none⟩ (.string n.data)).setCell ⟨w.heap.size+1,3,none⟩ (.int .i64 n.time)).setCell ⟨w.heap.size+1,4,none⟩ (.int .i64 n.mark)).cell? ⟨w.heap.size+1,2,none⟩=some (.string n.data):=(cell_of_row _ _ 2 _ _ (0,0) r5).trans (by simp)
   have d3:(((((WZ.setCell ⟨w.heap.size+1,0,none⟩ (.string n.path)).setCell ⟨w.heap.size+1,1,none⟩ (.int .i64 n.kind)).setCell ⟨w.heap.size+1,2,none⟩ (.string n.data)).setCell ⟨w.heap.size+1,3,none⟩ (.int .i64 n.time)).setCell ⟨w.heap.size+1,4,none⟩ (.int .i64 n.mark)).cell? ⟨w.heap.size+1,3,none⟩=some (.int .i64 n.time):=(cell_of_row _ _ 3 _ _ (0,0) r5).trans (by simp);have d4:(((((WZ.setCell ⟨w.heap.size+1,0,none⟩ (.string n.path)).setCell ⟨w.heap.size+1,1,none⟩ (.int .i64 n.kind)).setCell ⟨w.heap.size+1,2,none⟩ (.string n.data)).setCell ⟨w.heap.size+1,3,none⟩ (.int .i64 n.time)).setCell ⟨w.heap.size+1,4,none⟩ (.int .i64 n.mark)).cell? ⟨w.heap.size+1,4,none⟩=some (.int .i64 n.mark):=(cell_of_row _ _ 4 _ _ (0,0) r5).trans (by simp)
   have bf:Below w.heap.size w (((((WZ.setCell ⟨w.heap.size+1,0,none⟩ (.string n.path)).setCell ⟨w.heap.size+1,1,none⟩ (.int .i64 n.kind)).setCell ⟨w.heap.size+1,2,none⟩ (.string n.data)).setCell ⟨w.heap.size+1,3,none⟩ (.int .i64 n.time)).setCell ⟨w.heap.size+1,4,none⟩ (.int .i64 n.mark)):=(((((HF.1.setCell (by simp) _).setCell (by simp) _).setCell (by simp) _).setCell (by simp) _).setCell (by simp) _);clear MK hHeld r5 HF;go_wp2
   refine bodyPost_ret (v:= .agg #[.string n.path, .int .i64 n.kind, .string n.data, .int .i64 n.time, .int .i64 n.mark]) (by simp [results,Tryz.results135,go_sem,d0,d1,d2,d3,d4]) rfl ⟨rfl,bf⟩
 ·go_simp
  refine hK.out _ _ ?_ (fun hHeld=>?_)
  ·exact za MK _ (hHeld.1.keep ((Below.refl _ _).alloc (Nat.le_refl _) _))
  clear hK K
  try simp only [Act.put,kBs]
  have vD:=Mem.ze5 (W1) [.string n.data] 9;refine RN 2 fun K hK=>?_;go_simp
  refine hK.out _ _ ?_ (fun hHeld=>?_)
  ·exact za MK _ (hHeld.1.keep ((Below.refl _ _).alloc (Nat.le_refl _) _))
  clear hK K
  try simp only [Act.put,kBs]
  have vP:=Mem.ze5 (W1.alloc (.cells #[.string n.data] 9)) [.string n.path] 9;rw [show (W1.alloc (.cells #[.string n.data] 9)).heap.size=W1.heap.size+1 by simp] at vP;have vD2:=Mem.var_alloc vD (.cells #[.string n.path] 9);refine RN 3 fun K hK=>?_;go_simp
  refine (join1 n.path _ _ h1 vP).mono ?_;rintro e wX ⟨rfl,bX⟩;refine hK.out _ _ ?_ (fun hHeld=>?_)
  ·exact za MK _ (hHeld.1.keep bX)
  clear hK K
  try simp only [Act.put,kBs]
  refine TB 8 ?_;have vD3:=Mem.zi8 vD2 bX;refine RN 7 fun K hK=>?_;go_simp
  refine (join1 n.data _ _ h2 vD3).mono ?_;rintro e wY ⟨rfl,bY⟩;refine hK.out _ _ ?_ (fun hHeld=>?_)
  ·exact za MK _ (hHeld.1.keep bY)
  clear hK K
  try simp only [Act.put,kBs]
  refine RN 9 fun K hK=>?_;go_simp
  refine hK.out _ _ ?_ (fun hHeld=>?_)
  ·exact za MK _ (hHeld.1.put0)
  clear hK K
  try simp only [Act.put,kBs]
  refine TB 10 ?_;refine RN 11 fun K hK=>?_;go_simp
  refine hK.out _ _ ?_ (fun hHeld=>?_)
  ·exact za MK _ (hHeld.1.put2)
  clear hK K
  try simp only [Act.put,kBs]
  refine wpAnyH_done (by kernel_rfl) ?_ _;have HF:=hHeld.1;generalize ((wY.setCell ⟨w.heap.size,0,none⟩ (.string n.path)).setCell ⟨w.heap.size,2,none⟩ (.string n.data))=WZ at HF ⊢;have q0:=HF.at 0;have q1:=HF.at 1;have q2:=HF.at 2;have q3:=HF.at 3;have q4:=HF.at 4;have z0:=HF.zat 0;have f0:=HF.zfr 0;have z1:=HF.zat 1;have f1:=HF.zfr 1;have z2:=HF.zat 2;have f2:=HF.zfr 2;have z3:=HF.zat 3;have f3:=HF.zfr 3;have z4:=HF.zat 4;have f4:=HF.zfr 4;simp only [kGs] at q0 q1 q2 q3 q4 z0 z1 z2 z3 z4;have r5:=HF.res;have d0:(((((WZ.setCell ⟨w.heap.size+1,0,none⟩ (.string n.path)).setCell ⟨w.heap.size+1,1,none⟩ (.int .i64 n.kind)).setCell ⟨w.heap.size+1,2,none⟩ (.string n.data)).setCell ⟨w.heap.size+1,3,none⟩ (.int .i64 n.time)).setCell ⟨w.heap.size+1,4,none⟩ (.int .i64 n.mark)).cell? ⟨w.heap.size+1,0,none⟩=some (.string n.path):=(cell_of_row _ _ 0 _ _ (0,0) r5).trans (by simp)
  have d1:(((((WZ.setCell ⟨w.heap.size+1,0,none⟩ (.string n.path)).setCell ⟨w.heap.size+1,1,none⟩ (.int .i64 n.kind)).setCell ⟨w.heap.size+1,2,none⟩ (.string n.data)).setCell ⟨w.heap.size+1,3,none⟩ (.int .i64 n.time)).setCell ⟨w.heap.size+1,4,none⟩ (.int .i64 n.mark)).cell? ⟨w.heap.size+1,1,none⟩=some (.int .i64 n.kind):=(cell_of_row _ _ 1 _ _ (0,0) r5).trans (by simp);have d2:(((((WZ.setCell ⟨w.heap.size+1,0,none⟩ (.string n.path)).setCell ⟨w.heap.size+1,1,none⟩ (.int .i64 n.kind)).setCell ⟨w.heap.size+1,2,none⟩ (.string n.data)).setCell ⟨w.heap.size+1,3,none⟩ (.int .i64 n.time)).setCell ⟨w.heap.size+1,4,none⟩ (.int .i64 n.mark)).cell? ⟨w.heap.size+1,2,none⟩=some (.string n.data):=(cell_of_row _ _ 2 _ _ (0,0) r5).trans (by simp)
  have d3:(((((WZ.setCell ⟨w.heap.size+1,0,none⟩ (.string n.path)).setCell ⟨w.heap.size+1,1,none⟩ (.int .i64 n.kind)).setCell ⟨w.heap.size+1,2,none⟩ (.string n.data)).setCell ⟨w.heap.size+1,3,none⟩ (.int .i64 n.time)).setCell ⟨w.heap.size+1,4,none⟩ (.int .i64 n.mark)).cell? ⟨w.heap.size+1,3,none⟩=some (.int .i64 n.time):=(cell_of_row _ _ 3 _ _ (0,0) r5).trans (by simp);have d4:(((((WZ.setCell ⟨w.heap.size+1,0,none⟩ (.string n.path)).setCell ⟨w.heap.size+1,1,none⟩ (.int .i64 n.kind)).setCell ⟨w.heap.size+1,2,none⟩ (.string n.data)).setCell ⟨w.heap.size+1,3,none⟩ (.int .i64 n.time)).setCell ⟨w.heap.size+1,4,none⟩ (.int .i64 n.mark)).cell? ⟨w.heap.size+1,4,none⟩=some (.int .i64 n.mark):=(cell_of_row _ _ 4 _ _ (0,0) r5).trans (by simp)
  have bf:Below w.heap.size w (((((WZ.setCell ⟨w.heap.size+1,0,none⟩ (.string n.path)).setCell ⟨w.heap.size+1,1,none⟩ (.int .i64 n.kind)).setCell ⟨w.heap.size+1,2,none⟩ (.string n.data)).setCell ⟨w.heap.size+1,3,none⟩ (.int .i64 n.time)).setCell ⟨w.heap.size+1,4,none⟩ (.int .i64 n.mark)):=(((((HF.1.setCell (by simp) _).setCell (by simp) _).setCell (by simp) _).setCell (by simp) _).setCell (by simp) _);clear MK hHeld r5 HF;go_wp2
  refine bodyPost_ret (v:= .agg #[.string n.path, .int .i64 n.kind, .string n.data, .int .i64 n.time, .int .i64 n.mark]) (by simp [results,Tryz.results135,go_sem,d0,d1,d2,d3,d4]) rfl ⟨rfl,bf⟩
end WCopied
end
end Go.Proofs.YtonffldjbmednaaGreatDoor
