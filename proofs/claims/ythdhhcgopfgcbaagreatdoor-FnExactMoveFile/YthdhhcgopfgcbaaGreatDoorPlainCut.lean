import Derived.Test.YthdhhcgopfgcbaaGreatDoorWUnder1S
namespace Go.Proofs.YthdhhcgopfgcbaaGreatDoor
open Go.RowKit
namespace Pl
theorem zj4 {L:List Nd} (h:za5 L=true):L.Pairwise (fun a b=>ltP a.path b.path=true)∧(∀n∈L,za1 n.path=true∧n.data.size≤1048576)∧L.length≤40:=by
 have h0:=h;simp only [za5,Bool.and_eq_true,decide_eq_true_eq] at h;have hn:=zt L _ _ h.2;have hr:=(yf4 L [] ⟨#[]⟩ h.2 (zh3 rfl).1).1;refine ⟨List.Pairwise.imp_of_mem (fun {a b} ha hb hab=>?_) hr,fun n hm=>⟨(zb1 (hn n hm)).1,by have :=(zd8 (hn n hm)).1;omega⟩,h.1⟩;rw [zd4 (zb1 (hn a ha)).1 (zb1 (hn b hb)).1];exact hab
theorem off_below {L:List Nd} {p:ByteArray} (hL:∀n∈L,za1 n.path=true) (hp:za1 p=true):L.filter (fun n=>!zb7 n.path p&&!decide (n.path=p))=offL p L:=by
 apply List.filter_congr
 intro n hn;have hn':=hL n hn;by_cases e:n.path=p
 ·have :under n.path p=true:=by rw [e];exact yl0 p
  rw [this,e];simp
 ·have hb:zb7 n.path p=under n.path p:=by
   rw [zb7,hn',hp,zc1 hn',zc1 hp,yk3];simp [e]
  rw [hb];simp [e]
theorem off_len (p:ByteArray) (L:List Nd):(offL p L).length≤L.length:=List.length_filter_le _ _
end Pl
end Go.Proofs.YthdhhcgopfgcbaaGreatDoor
