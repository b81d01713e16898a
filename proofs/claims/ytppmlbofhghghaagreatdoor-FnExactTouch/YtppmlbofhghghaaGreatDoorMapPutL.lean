import Derived.Test.YtppmlbofhghghaaGreatDoorPlainCanon
import Derived.Test.YtppmlbofhghghaaGreatDoorG01
import Derived.Test.YtppmlbofhghghaaGreatDoorPlainCut
namespace Go.Proofs.YtppmlbofhghghaaGreatDoor
open Go.RowKit Go.Maps
namespace Pl
structure zd9 (L : List Nd) : Prop where
 rise : L.Pairwise (fun a b => ltP a.path b.path = true)
 path : ∀ n ∈ L, za3 n.path = true ∧ n.data.size ≤ 1048576
theorem zd9.apart {L : List Nd} (h : zd9 L) : L.Pairwise (fun a b => a.path ≠ b.path) := by
 refine List.Pairwise.imp_of_mem (fun {a b} ha hb hlt e => ?_) h.rise
 rw [e, zd8 (h.path b hb).1 (h.path b hb).1, zk8] at hlt
 cases hlt
theorem zd9.zv6 {L : List Nd} (h : za5 L = true) : zd9 L := ⟨(zf9 h).1, (zf9 h).2.1⟩
theorem zd9.put {L : List Nd} (h : zd9 L) {n : Nd} (hn : za3 n.path = true) (hd : n.data.size ≤ 1048576) : zd9 (putL L n) := by
 obtain ⟨h1, h2⟩ := put_ok (fun m hm => (h.path m hm).1) hn h.rise
 refine ⟨h1, fun m hm => ?_⟩
 rcases mem_put (h2.mem_iff.1 hm) with hm | rfl
 ·exact h.path m hm
 ·exact ⟨hn, hd⟩
theorem zd9.off {L : List Nd} (h : zd9 L) (p : ByteArray) : zd9 (offL p L) := ⟨h.rise.sublist List.filter_sublist, fun m hm => h.path m (List.mem_filter.1 hm).1⟩
end Pl
namespace MapN
theorem zv2 {w : World} {b N : Nat} {L : List Pl.Nd} (hL : Pl.zd9 L) {n : Pl.Nd} (hn : Pl.za3 n.path = true) (hd : n.data.size ≤ 1048576) (h : w.ownsMap Tryz.prog 9 MapN.elem b N ((mapOf L).put (key n.path) (dat n))) : w.ownsMap Tryz.prog 9 MapN.elem b N (mapOf (Pl.putL L n)) := by
 have h0 : IsMap (mapOf L) := by obtain ⟨es, e, -⟩ := str_mapOf L; exact ⟨es, e⟩
 have hr := zs3 (zj5 hL.apart) h0 n
 have e := yk5 h hr (hL.put hn hd).apart (fun m => ((Pl.put_ok (fun m hm => (hL.path m hm).1) hn hL.rise).2.mem_iff).symm)
 rw [← e]
 exact h
end MapN
end Go.Proofs.YtppmlbofhghghaaGreatDoor
