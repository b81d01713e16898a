/- Several texts of one claim in one file: WWkAsk, WNestF, WOvK. -/
import Derived.Test.YtpakookhgpphaaaDoorG05
import Derived.Test.YtpakookhgpphaaaDoorG26
import Derived.Test.YtpakookhgpphaaaDoorWWkAt
import Derived.Test.YtpakookhgpphaaaDoorG06
import Derived.Test.YtpakookhgpphaaaDoorG04
import Derived.Test.YtpakookhgpphaaaDoorProg
import Derived.WalkSpells
import Derived.Lib.OthersKept
import Derived.Laws.RangeAny
import Derived.Deep.Draws
import Derived.Deep.QuietTactic
import Derived.BigQuiet
import Derived.Deep.RegionHeld3
namespace Go.Proofs.YtpakookhgpphaaaDoor
section
open Go.RowKit Go.Maps
namespace WWk
open WSight
set_option maxRecDepth 100000 in
theorem ask_any (B:Nat) (q:ByteArray) (hs:q.size≤1048576) (ps:List ByteArray):∀ (d:Nat) (L:List Pl.Nd) (k:Pl.Fx) (v:Value) (lo hi:Nat) (W:World),k.shape.depth≤d→Pl.ze2 L=true→k.okX→k.len≤4→Wk B d L k ps v lo hi W→
  Ask W v q (Pl.fnH L k (ps++[q])) lo hi (Wk B d L k (ps++[q]) v lo hi):=by
 have leaf:∀ (L:List Pl.Nd) (k:Pl.Fx) (v:Value) (lo hi:Nat) (W:World) (Q:World→Prop),k.len=0→Pl.ze2 L=true→Lf B L v W→(∀W',Lf B L v W'→Q W')→Ask W v q (Pl.fnH L k (ps++[q])) lo hi Q:=by
  rintro L k v lo hi W Q h0 ht ⟨b,hb,rfl,hm⟩ hQ;rw [Pl.fnH_leaf h0];refine ⟨_,_,96, .map (some b),rfl,fun _ _=>by kernel_rfl,fun _=>by kernel_rfl,?_⟩;have hlt:=hm.lt;cases hf:Pl.lk L q with
  |none=>
   have hmiss:∀n∈L,n.path≠q:=fun n hn e=>by
    have :=List.find?_eq_none.1 hf n hn;simp [e] at this
   refine (at_some b 40 (MapN.mapOf L) q ⟨⟨#[]⟩,0,⟨#[]⟩,0,0⟩ W hs hm (Maps.atKey_of_not_has (MapN.has_no hmiss) _) false (MapN.has_no hmiss)).mono ?_;rintro e w' ⟨rfl,bb⟩;exact ⟨rfl,Mem.Band.of_below bb,hQ w' ⟨b,hb,rfl,hm.call bb⟩⟩
  |some m=>
   have hmem:=List.mem_of_find?_eq_some hf;have hp:m.path=q:=by simpa using List.find?_some hf
   obtain ⟨y1,y2⟩:=MapN.zr6 (Pl.tree_apart ht) hmem;rw [hp] at y1 y2;refine (at_some b 40 (MapN.mapOf L) q m W hs hm (y2 _) true y1).mono ?_;rintro e w' ⟨rfl,bb⟩;exact ⟨rfl,Mem.Band.of_below bb,hQ w' ⟨b,hb,rfl,hm.call bb⟩⟩
 intro d
 induction d with
 |zero=>
  intro L k v lo hi W hd ht hk h4 h
  have h0:k.len=0:=by
   cases k with
   |nil=>rfl
   |cons L k m=>simp only [Pl.Fx.shape,Pl.Fo.depth] at hd;omega
  exact leaf L k v lo hi W _ h0 ht h (fun W' h=>h)
 |succ d ih=>
  intro L k v lo hi W hd ht hk h4 h;by_cases h0:k.len=0
  ·simp only [Wk] at h ⊢;rw [if_pos h0] at h;exact leaf L k v lo hi W _ h0 ht h (fun W' h=>by rw [if_pos h0];exact h)
  ·simp only [Wk] at h ⊢;rw [if_neg h0] at h;obtain ⟨p,x,g,cap,vs,bl,bh,rfl,c⟩:=h;have hl:=Pl.walkF_len (Pl.fnsH k) k.len (Pl.hist ps);have hfn:Pl.fnH L k (ps++[q])=Pl.tellO (Pl.decS (Pl.nsF (Pl.walkF (Pl.fnsH k) (Pl.rootS k.len) (Pl.hist ps)).have' (Pl.fnsH k) (ps++[q]))):=by rw [Pl.fnH_nest h0,Pl.hist_snoc,Pl.walkF_snoc]
   rw [hfn];have hwk:Pl.walkF (Pl.fnsH k) (Pl.rootS k.len) (Pl.hist (ps++[q]))=Pl.decS (Pl.nsF (Pl.walkF (Pl.fnsH k) (Pl.rootS k.len) (Pl.hist ps)).have' (Pl.fnsH k) (ps++[q])):=by rw [Pl.hist_snoc,Pl.walkF_snoc]
   have hlen:=Pl.nsF_len (ps++[q]) (Pl.walkF (Pl.fnsH k) (Pl.rootS k.len) (Pl.hist ps)).have' (Pl.fnsH k) (by rw [Pl.fnsH_len,hl];exact h4);have hget:=fun i a f=>Pl.nsF_get (ps++[q]) (Pl.walkF (Pl.fnsH k) (Pl.rootS k.len) (Pl.hist ps)).have' (Pl.fnsH k) i a f;rw [hwk];generalize (Pl.walkF (Pl.fnsH k) (Pl.rootS k.len) (Pl.hist ps)).have'=hv at c hl hlen hget ⊢;generalize Pl.nsF hv (Pl.fnsH k) (ps++[q])=ns at hlen hget ⊢
   obtain ⟨a0,a1,a2,a3,rfl⟩:∃h0 h1 h2 h3,hv=[h0,h1,h2,h3]:=by
    match hv,hl with
    | [a,b,c,d],_=>exact ⟨a,b,c,d,rfl⟩
   refine ⟨_,_,100, .pointer (some ⟨p,0,none⟩),rfl,fun _ _=>by kernel_rfl,fun _=>by kernel_rfl,?_⟩;have loc:∀ (ps:List ByteArray) (i:Nat),Local B (bl i) (bh i) (fun W=>∀L' k',Pl.kid k i=some (L',k')→Wk B d L' k' ps (vs i) (bl i) (bh i) W):=fun ps i W W' a1 a2 hh ss L' k' e=>wk_local B d L' k' ps (vs i) (bl i) (bh i) W W' a1 a2 (hh L' k' e) ss;have hA:=at_walk (q:=q) (f:=fun i=>(Pl.fnsH k).getD i (fun _=>none) (ps++[q])) (ns:=ns) (Q:=fun i W=>∀L' k',Pl.kid k i=some (L',k')→Wk B d L' k' (ps++[q]) (vs i) (bl i) (bh i) W) a0 a1 a2 a3 W c h4 (fun i _=>loc ps i) (fun i _=>loc (ps++[q]) i) ?_ ?_ (by rw [hlen,Pl.fnsH_len]) ?_
   ·refine hA.mono ?_;rintro e w' ⟨rfl,b,co⟩;obtain ⟨e1,e2⟩:=Pl.tell_val ns;rw [e1,e2];refine ⟨rfl,b,?_⟩
    dsimp only
    rw [if_neg h0];exact ⟨p,x,g,cap,vs,bl,bh,rfl,co⟩
   ·intro i W' hi hsz hP;obtain ⟨L',k',hk'⟩:=Pl.kid_some hi;obtain ⟨g1,g2,g3,g4⟩:=Pl.kid_ok hk hk';have hdd:=Pl.kid_depth hk';have :=ih L' k' (vs i) (bl i) (bh i) W' (by omega) g1 g4 g3 (hP L' k' hk');have hf:(Pl.fnsH k).getD i (fun _=>none) (ps++[q])=Pl.fnH L' k' (ps++[q]):=by rw [List.getD,Pl.fnsH_get hk'];rfl
    rw [hf];obtain ⟨T,x',F,r,h1,h2,h3,h4'⟩:=this;refine ⟨T,x',F,r,h1,h2,h3,h4'.mono ?_⟩;rintro e w' ⟨rfl,b,hw⟩;exact ⟨rfl,b,fun L2 k2 e2=>by rw [hk'] at e2;cases e2;exact hw⟩
   ·intro i m hm
    have hi:i<(Pl.fnsH k).length:=by
     by_cases hi:i<(Pl.fnsH k).length
     ·exact hi
     ·rw [List.getD,List.getElem?_eq_none (by omega)] at hm;cases hm
    have hmem:(Pl.fnsH k).getD i (fun _=>none)∈Pl.fnsH k:=by
     rw [List.getD,List.getElem?_eq_getElem hi];exact List.getElem_mem hi
    exact Pl.fnsH_mark k hk _ hmem _ m hm
   ·intro i a hi ha;obtain ⟨L',k',hk'⟩:=Pl.kid_some hi;have e1:=Pl.fnsH_get hk';rw [List.getD,e1];exact hget i a _ ha e1
end WWk
end
section
open Go.RowKit
namespace zl4
set_option maxRecDepth 100000 in
theorem leaf_any (k:Pl.Fo) (q:Option Nat) (m:Int) (a:Option Addr) (cap:Nat) (w:World):
  Calls Tryd.prog 50 #[.agg #[.map q, .int .i64 m, .slice a k.len cap]] w fun e w'=>e= .returned (.bool (decide (k.len=0)))∧Below w.heap.size w w':=by
 by_cases h:k.len=0
 ·have t:(k.len:Int)=0:=by omega
  go_enter Tryd.func50,Tryd.ntmps50
  go_wp2
  go_ret
  exact ⟨by simp [h],(Below.refl _ _).alloc (Nat.le_refl _) _⟩
 ·have t:¬ (k.len:Int)=0:=by omega
  go_enter Tryd.func50,Tryd.ntmps50
  go_wp2
  go_ret
  exact ⟨by simp [h],(Below.refl _ _).alloc (Nat.le_refl _) _⟩
end zl4
end
section
open Go.RowKit Go.Maps
namespace Pl
end Pl
namespace WOverI
def layV (b:Nat):Value:= .iface 49 (.map (some b))
theorem row_call {w w':World} {B n:Nat} {T:TypeId} {v:Value} {xs:List Value} (h:w.ownsRow B T 1 v n xs) (b:Below w.heap.size w w'):w'.ownsRow B T 1 v n xs:=by
 refine ⟨h.1,?_⟩
 rcases h.2 with h0|⟨g,cap,cur,hv,hb,hg,rest⟩
 ·exact .inl h0
 ·exact .inr ⟨g,cap,cur,hv,hb,(b.block g (Array.getElem?_eq_some_iff.1 hg).1).trans hg,rest⟩
structure Ov (w:World) (B:Nat) (v:Value) (Bs:List Nat) (Ls:List (List Pl.Nd)):Prop where
 row:w.ownsRow B 82 1 v Bs.length (Bs.map layV)
 len:Bs.length=Ls.length
 maps:∀ (j:Nat) b L,Bs[j]? =some b→Ls[j]? =some L→B≤b∧w.ownsMap Tryd.prog 9 MapN.elem b 40 (MapN.mapOf L)
theorem Ov.call {w w':World} {B:Nat} {v:Value} {Bs:List Nat} {Ls:List (List Pl.Nd)} (h:Ov w B v Bs Ls) (b:Below w.heap.size w w'):Ov w' B v Bs Ls:=
 ⟨row_call h.row b,h.len,fun j c L h1 h2=>⟨(h.maps j c L h1 h2).1,zn7.ze3 (h.maps j c L h1 h2).2 b⟩⟩
theorem map_not {w:World} {B b n m:Nat} {T:TypeId} {v:Value} {xs:List Value} {D:DataW Unit} (h:w.ownsRow B T 1 v n xs) (hm:w.ownsMap Tryd.prog 9 MapN.elem b m D):some b≠v.ownBlock:=fun e=>by
 obtain ⟨es,clock,h1,_⟩:=hm
 rcases h.2 with ⟨rfl,_⟩|⟨g,cap,cur,rfl,_,hg,_⟩
 ·cases e
 ·cases e
  rw [hg] at h1;cases h1
theorem Ov.put {w w':World} {B b:Nat} {v v':Value} {Bs:List Nat} {Ls:List (List Pl.Nd)} {L:List Pl.Nd} (h:Ov w B v Bs Ls) (hm:w.ownsMap Tryd.prog 9 MapN.elem b 40 (MapN.mapOf L)) (hb:B≤b)
  (hr:w'.ownsRow B 82 1 v' (Bs.length+1) (Bs.map layV++[layV b])) (hg:w.grownBy w' v.ownBlock):Ov w' B v' (Bs++[b]) (Ls++[L]):=by
 refine ⟨by simpa using hr,by simp [h.len],fun j c M h1 h2=>?_⟩;by_cases e:j<Bs.length
 ·rw [List.getElem?_append_left e] at h1;rw [List.getElem?_append_left (by rw [←h.len];exact e)] at h2;obtain ⟨h3,h4⟩:=h.maps j c M h1 h2;exact ⟨h3,h4.kept hg (map_not h.row h4)⟩
 ·rw [List.getElem?_append_right (by omega)] at h1;rw [List.getElem?_append_right (by rw [←h.len];omega)] at h2
  have e0:j - Bs.length=0:=by
   have :=(List.getElem?_eq_some_iff.1 h1).1;simp at this;omega
  rw [e0] at h1;rw [←h.len,e0] at h2;simp at h1 h2
  subst h1 h2;exact ⟨hb,hm.kept hg (map_not h.row hm)⟩
theorem infoL:(Tryd.prog.info? 82).map (fun i=>(i.zero,i.size,i.bytes))=some (some .nilIface,1,16):=by kernel_rfl
end WOverI
end
end Go.Proofs.YtpakookhgpphaaaDoor
