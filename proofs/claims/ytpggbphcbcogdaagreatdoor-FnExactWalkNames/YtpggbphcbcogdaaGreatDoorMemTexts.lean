import Derived.Test.YtpggbphcbcogdaaGreatDoorPlain
import Derived.Below
import Derived.WalkKit
import Derived.Laws.IdiomStrings
import Derived.Deep.Draws
namespace Go.Proofs.YtpggbphcbcogdaaGreatDoor
open Go.RowKit
namespace Mem
theorem texts {w:World} {B T:Nat} {v:Value} {L:List ByteArray} (h:w.ownsRow B T 1 v L.length (L.map Value.string)):
  (v= .slice none 0 0∧L=[])∨∃g cap,v= .slice (some ⟨g,0,none⟩) L.length cap∧L.length≤cap∧cap≤maxLen∧B≤g∧g<w.heap.size∧∀ (k:Nat) t,L[k]? =some t→w.cell? ⟨g,k,none⟩=some (.string t):=by
 rcases h.2 with ⟨rfl,h0⟩|⟨g,cap,cur,rfl,hgb,hg,hcap,hm,hsz,htk⟩
 ·exact .inl ⟨rfl,List.eq_nil_of_length_eq_zero h0⟩
 ·refine .inr ⟨g,cap,rfl,hcap,hm,hgb,(Array.getElem?_eq_some_iff.1 hg).1,fun k t ht=>?_⟩;have hk:=(List.getElem?_eq_some_iff.1 ht).1;rw [cell_of_row w g k cur T (0,0) hg];have h1:(cur.toList.take (L.length*1))[k]? =(L.map Value.string)[k]?:=by rw [htk]
  rw [List.getElem?_take_of_lt (by omega),List.getElem?_map,ht] at h1
  simpa using h1
theorem one_str (t:ByteArray):∀u∈[Value.string t],u.oneCell'=true:=by
 intro u hu;simp at hu;subst hu;rfl
def ze5 (w:World) (v:Value) (ts:List ByteArray):Prop:=
 (v= .slice none 0 0∧ts=[])∨∃b o cap,v= .slice (some ⟨b,o,none⟩) ts.length cap∧b<w.heap.size∧∀ (j:Nat) t,ts[j]? =some t→w.cell? ⟨b,o+j,none⟩=some (.string t)
theorem ze4 {w:World} {B T:Nat} {v:Value} {L:List ByteArray} (h:w.ownsRow B T 1 v L.length (L.map Value.string)):ze5 w v L:=by
 rcases texts h with h|⟨g,cap,h1,h2,h3,h4,h5,h6⟩
 ·exact .inl h
 ·exact .inr ⟨g,0,cap,h1,h5,fun j t ht=>by rw [Nat.zero_add];exact h6 j t ht⟩
theorem take_texts {w:World} {g cap:Nat} {L:List ByteArray} (hg:g<w.heap.size) (hc:∀ (k:Nat) t,L[k]? =some t→w.cell? ⟨g,k,none⟩=some (.string t)) (n:Nat) (hn:n≤L.length):
  ze5 w (.slice (some ⟨g,0,none⟩) n cap) (L.take n):=by
 refine .inr ⟨g,0,cap,by rw [List.length_take,Nat.min_eq_left hn],hg,fun j t ht=>?_⟩;rw [Nat.zero_add];refine hc j t ?_;have hj:j<n:=by have :=(List.getElem?_eq_some_iff.1 ht).1;rw [List.length_take] at this;omega
 rwa [List.getElem?_take_of_lt hj] at ht
theorem drop_texts {w:World} {g cap:Nat} {L:List ByteArray} (hg:g<w.heap.size) (hc:∀ (k:Nat) t,L[k]? =some t→w.cell? ⟨g,k,none⟩=some (.string t)) (n:Nat):
  ze5 w (.slice (some ⟨g,n,none⟩) (L.length - n) cap) (L.drop n):=by
 refine .inr ⟨g,n,cap,by rw [List.length_drop],hg,fun j t ht=>?_⟩;refine hc (n+j) t ?_
 rwa [List.getElem?_drop] at ht
theorem own_below {w w':World} {B B' e size n:Nat} {v:Value} {xs:List Value} (h:w.ownsRow B e size v n xs) (hb:Below B' w w') (hB:∀k,v.ownBlock=some k→k<B'):w'.ownsRow B e size v n xs:=by
 refine ⟨h.1,?_⟩
 rcases h.2 with h0|⟨g,cap,cur,rfl,hgb,hg,rest⟩
 ·exact .inl h0
 ·exact .inr ⟨g,cap,cur,rfl,hgb,(hb.block g (hB g rfl)).trans hg,rest⟩
theorem zc8 {w w':World} {B e size n:Nat} {v:Value} {xs:List Value} (h:w.ownsRow B e size v n xs) (hb:Below w.heap.size w w'):w'.ownsRow B e size v n xs:=
 own_below h hb (fun k hk=>(h.lt k hk).2)
theorem zl5 {w w':World} {v:Value} {ts:List ByteArray} (h:ze5 w v ts) (hb:Below w.heap.size w w'):ze5 w' v ts:=by
 rcases h with h|⟨b,o,cap,rfl,hlt,hc⟩
 ·exact .inl h
 ·exact .inr ⟨b,o,cap,rfl,Nat.lt_of_lt_of_le hlt hb.size,fun j t ht=>(hb.cell (p:=⟨b,o+j,none⟩) hlt).trans (hc j t ht)⟩
theorem below_drewN {B:Nat} {a w:World} (h:Below B a w) (q:Nat):Below B a (w.drewN q):=h.trans ⟨rfl,rfl,rfl,Nat.le_refl _,fun _ _=>rfl⟩
theorem zh0 {w:World} {v:Value} {ts:List ByteArray} (h:ze5 w v ts):∃a cap,v= .slice a ts.length cap:=by
 rcases h with ⟨rfl,rfl⟩|⟨b,o,cap,rfl,_⟩ <;> exact ⟨_,_,rfl⟩
theorem own_textsN {w:World} {B T n:Nat} {v:Value} {L:List ByteArray} (h:w.ownsRow B T 1 v n (L.map Value.string)) (hn:L.length=n):ze5 w v L:=by
 subst hn;exact ze4 h
end Mem
end Go.Proofs.YtpggbphcbcogdaaGreatDoor
