import Derived.Test.YthdhhcgopfgcbaaGreatDoorG04
import Derived.Test.YthdhhcgopfgcbaaGreatDoorPlainCut
namespace Go.Proofs.YthdhhcgopfgcbaaGreatDoor
open Go.RowKit Go.Maps
namespace Pl
structure zc9 (L:List Nd):Prop where
 rise:L.Pairwise (fun a b=>ltP a.path b.path=true)
 path:∀n∈L,za1 n.path=true∧n.data.size≤1048576
theorem zc9.apart {L:List Nd} (h:zc9 L):L.Pairwise (fun a b=>a.path≠b.path):=by
 refine List.Pairwise.imp_of_mem (fun {a b} ha hb hlt e=>?_) h.rise;rw [e,zd4 (h.path b hb).1 (h.path b hb).1,zj8] at hlt;cases hlt
theorem zc9.zr0 {L:List Nd} (h:za5 L=true):zc9 L:=⟨(zj4 h).1,(zj4 h).2.1⟩
theorem zc9.put {L:List Nd} (h:zc9 L) {n:Nd} (hn:za1 n.path=true) (hd:n.data.size≤1048576):zc9 (putL L n):=by
 obtain ⟨h1,h2⟩:=put_ok (fun m hm=>(h.path m hm).1) hn h.rise;refine ⟨h1,fun m hm=>?_⟩
 rcases mem_put (h2.mem_iff.1 hm) with hm|rfl
 ·exact h.path m hm
 ·exact ⟨hn,hd⟩
theorem zc9.off {L:List Nd} (h:zc9 L) (p:ByteArray):zc9 (offL p L):=⟨h.rise.sublist List.filter_sublist,fun m hm=>h.path m (List.mem_filter.1 hm).1⟩
end Pl
namespace MapN
theorem yc9 {w:World} {b N:Nat} {L:List Pl.Nd} (hL:Pl.zc9 L) {n:Pl.Nd} (hn:Pl.za1 n.path=true) (hd:n.data.size≤1048576) (h:w.ownsMap Tryz.prog 9 MapN.elem b N ((mapOf L).put (key n.path) (dat n))):w.ownsMap Tryz.prog 9 MapN.elem b N (mapOf (Pl.putL L n)):=by
 have h0:IsMap (mapOf L):=by obtain ⟨es,e, -⟩:=str_mapOf L;exact ⟨es,e⟩
 have hr:=zu4 (zj6 hL.apart) h0 n;have e:=yi8 h hr (hL.put hn hd).apart (fun m=>((Pl.put_ok (fun m hm=>(hL.path m hm).1) hn hL.rise).2.mem_iff).symm);rw [←e];exact h
end MapN
end Go.Proofs.YthdhhcgopfgcbaaGreatDoor
