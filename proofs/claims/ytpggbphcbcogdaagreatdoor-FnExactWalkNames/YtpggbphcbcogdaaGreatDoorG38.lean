/- Several texts of one claim in one file: MemRes, WFaceJ. -/
import Derived.Test.YtpggbphcbcogdaaGreatDoorG26
namespace Go.Proofs.YtpggbphcbcogdaaGreatDoor
section
open Go.RowKit
namespace Mem
structure Res (w w':World):Prop where
 heap:w'.heap[w.heap.size]? =some (.cells #[.string ⟨#[]⟩, .int .i64 0, .int .i64 0] 93 (0,0))
 bel:Below w.heap.size w w'
theorem Res.start (w:World):Res w (w.alloc (.cells #[.string ⟨#[]⟩, .int .i64 0, .int .i64 0] 93)):=⟨heap_alloc_new w _,(Below.refl _ _).alloc (Nat.le_refl _) _⟩
theorem Res.lt {w w':World} (h:Res w w'):w.heap.size<w'.heap.size:=(Array.getElem?_eq_some_iff.1 h.heap).1
theorem Res.below {w w1 w2:World} {B:Nat} (h:Res w w1) (hb:Below B w1 w2) (hB:w.heap.size<B):Res w w2:=
 ⟨(hb.block _ hB).trans h.heap,h.bel.trans (hb.mono (Nat.le_of_lt hB))⟩
theorem Res.call {w w1 w2:World} (h:Res w w1) (hb:Below w1.heap.size w1 w2):Res w w2:=h.below hb h.lt
theorem Res.cells {w w':World} (h:Res w w'):(w'.cell? ⟨w.heap.size,0,none⟩=some (.string ⟨#[]⟩)∧w'.cell? ⟨w.heap.size,1,none⟩=some (.int .i64 0)∧w'.cell? ⟨w.heap.size,2,none⟩=some (.int .i64 0))∧
  (w'.frozen? ⟨w.heap.size,0,none⟩=false∧w'.frozen? ⟨w.heap.size,1,none⟩=false∧w'.frozen? ⟨w.heap.size,2,none⟩=false):=by
 refine ⟨⟨?_,?_,?_⟩,⟨zd5 h.heap,zd5 h.heap,zd5 h.heap⟩⟩
 ·rw [cell_of_row w' _ 0 _ _ (0,0) h.heap];rfl
 ·rw [cell_of_row w' _ 1 _ _ (0,0) h.heap];rfl
 ·rw [cell_of_row w' _ 2 _ _ (0,0) h.heap];rfl
end Mem
end
section
open Go.RowKit
namespace zh3
set_option maxRecDepth 100000 in
set_option maxHeartbeats 400000 in
theorem join_any (p n:ByteArray) (w:World) (hp:p.size≤1048576) (hq:n.size≤1048576):
  Calls Tryz.prog 42 #[.string p, .string n] w fun e w'=>e= .returned (Pl.tOut (Pl.zc6 p n))∧Below w.heap.size w w':=by
 obtain ⟨i0,hi,hz0,hz1,hz2⟩:=info_parts WWords.zk5;by_cases h1:8000<p.size∨8000<n.size
 ·have E:Hid (Pl.tOut (Pl.zc6 p n)= .agg #[.string ⟨#[]⟩, .int .i64 0, .int .i64 2]):=by show _=_;rw [Pl.zc6,if_pos h1];rfl
  generalize Pl.tOut (Pl.zc6 p n)=R at E ⊢;by_cases h2:8000<p.size
  ·clear h1;go_enter Tryz.func42,Tryz.ntmps42
   go_wp2
   refine bodyPost_ret (v:= .agg #[.string ⟨#[]⟩, .int .i64 0, .int .i64 2]) (by simp [results,Tryz.results42,go_sem]) rfl ⟨by rw [E.out],?_⟩;exact bE0
  ·have h3:8000<n.size:=by omega
   clear h1;go_enter Tryz.func42,Tryz.ntmps42
   go_wp2
   refine bodyPost_ret (v:= .agg #[.string ⟨#[]⟩, .int .i64 0, .int .i64 2]) (by simp [results,Tryz.results42,go_sem]) rfl ⟨by rw [E.out],?_⟩;exact bE0
 have h2:¬8000<p.size:=fun h=>h1 (.inl h);have h3:¬8000<n.size:=fun h=>h1 (.inr h);have hn:=hide (fun W=>zn6.any p W hp);have hL:=hide (Pl.ze2 p);have hnr:=hide (fun W=>WName.zk6 n W (by unfold maxLen;omega));have EB:Hid (¬ (Pl.za2 p=true∧Pl.zb4 n=true)→Pl.tOut (Pl.zc6 p n)= .agg #[.string ⟨#[]⟩, .int .i64 0, .int .i64 1]):=fun h=>by rw [Pl.zc6,if_neg h1,if_pos h];rfl
 have EF:Hid (Pl.za2 p=true∧Pl.zb4 n=true→(Pl.zb0 p).length=6→Pl.tOut (Pl.zc6 p n)= .agg #[.string ⟨#[]⟩, .int .i64 0, .int .i64 9]):=fun h h6=>by rw [Pl.zc6,if_neg h1,if_neg (fun g=>g h),if_pos h6];rfl
 have EG:Hid (Pl.za2 p=true∧Pl.zb4 n=true→¬ (Pl.zb0 p).length=6→Pl.tOut (Pl.zc6 p n)= .agg #[.string (Pl.glue (Pl.zb0 p++[n])), .int .i64 0, .int .i64 0]):=fun h h6=>by rw [Pl.zc6,if_neg h1,if_neg (fun g=>g h),if_neg h6];rfl
 have HNM:Hid (Pl.zb4 n=true→n.size≤20):=fun h=>(Pl.zj4 h).2.2.2
 have HNS:Hid (∀L:List ByteArray,(∀t∈L,Pl.zb4 t=true)→L.length≤6→Pl.zb4 n=true→(Pl.glue (L++[n])).size≤1000000):=fun L hL h6 hb=>by
  refine Pl.zm (fun t ht=>?_) (by simp;omega)
  rcases List.mem_append.1 ht with ht|ht
  ·exact hL t ht
  ·simp at ht;subst ht;exact hb
 generalize Pl.tOut (Pl.zc6 p n)=R at EB EF EG ⊢;generalize Pl.za2 p=r at hn EB EF EG;generalize Pl.zb4 n=q at hnr EB EF EG HNM HNS;generalize Pl.zb0 p=L at hn hL EF EG;clear h1;cases r
 ·have E:=hide (EB.out (by simp));clear EB EF EG;go_enter Tryz.func42,Tryz.ntmps42
  go_wp2_with fail
  refine (za hn _).mono ?_;rintro e w1 ⟨v,rfl,hown,hb⟩;have hR:=(Mem.Res.start w).call hb;obtain ⟨⟨c0,c1,c2⟩,⟨f0,f1,f2⟩⟩:=hR.cells;have hB:=hR.bel;clear hown hb hR;go_wp2
  refine bodyPost_ret (v:= .agg #[.string ⟨#[]⟩, .int .i64 0, .int .i64 1]) (by simp [results,Tryz.results42,go_sem,c0,c1,c2]) rfl ⟨by rw [za E],?_⟩;exact ((hB.setCell (by simp) _).setCell (by simp) _).setCell (by simp) _
 cases q
 ·have E:=hide (EB.out (by simp));clear EB EF EG;go_enter Tryz.func42,Tryz.ntmps42
  go_wp2_with fail
  refine (za hn _).mono ?_;rintro e w1 ⟨v,rfl,hown,hb⟩;have hR:=(Mem.Res.start w).call hb;obtain ⟨⟨c0,c1,c2⟩,⟨f0,f1,f2⟩⟩:=hR.cells;have hB:=hR.bel;clear hown hb hR;go_wp2_with (go_at_call 54;refine (za hnr _).mono ?_;rintro e w' ⟨rfl,hw⟩;obtain rfl:=hw.symm)
  refine bodyPost_ret (v:= .agg #[.string ⟨#[]⟩, .int .i64 0, .int .i64 1]) (by simp [results,Tryz.results42,go_sem,c0,c1,c2]) rfl ⟨by rw [za E],?_⟩;exact ((hB.setCell (by simp) _).setCell (by simp) _).setCell (by simp) _
 by_cases h6:L.length=6
 ·have E:=hide (EF.out ⟨rfl,rfl⟩ h6);have t6:((L.length:Int)==6)=true:=by rw [beq_iff_eq];omega
  clear EB EF EG;go_enter Tryz.func42,Tryz.ntmps42
  go_wp2_with fail
  refine (za hn _).mono ?_;rintro e w1 ⟨v,rfl,hown,hb⟩;have hR:=(Mem.Res.start w).call hb;obtain ⟨⟨c0,c1,c2⟩,⟨f0,f1,f2⟩⟩:=hR.cells;have hB:=hR.bel
  obtain ⟨va,vc,rfl⟩:∃a cap,v= .slice a L.length cap:=by
   rcases Mem.ze4 hown with ⟨rfl,rfl⟩|⟨b,o,cap,rfl,_⟩ <;> exact ⟨_,_,rfl⟩
  clear hown hb hR h6;go_wp2_with (go_at_call 54;refine (za hnr _).mono ?_;rintro e w' ⟨rfl,hw⟩;obtain rfl:=hw.symm)
  refine bodyPost_ret (v:= .agg #[.string ⟨#[]⟩, .int .i64 0, .int .i64 9]) (by simp [results,Tryz.results42,go_sem,c0,c1,c2]) rfl ⟨by rw [za E],?_⟩;exact ((hB.setCell (by simp) _).setCell (by simp) _).setCell (by simp) _
 ·have E:=hide (EG.out ⟨rfl,rfl⟩ h6);have t6:((L.length:Int)==6)=false:=by rw [beq_eq_false_iff_ne];omega
  have hl6:=(za hL).2;clear EB EF EG;go_enter Tryz.func42,Tryz.ntmps42
  go_wp2_with fail
  refine (za hn _).mono ?_;rintro e w1 ⟨v,rfl,hown,hb⟩;have hR:=(Mem.Res.start w).call hb;have hs1:=hb.size;have hbase:w.heap.size<(w.alloc (.cells #[.string ⟨#[]⟩, .int .i64 0, .int .i64 0] 93)).heap.size:=(Mem.Res.start w).lt;generalize (w.alloc (.cells #[.string ⟨#[]⟩, .int .i64 0, .int .i64 0] 93)).heap.size=B at hown hs1 hbase
  obtain ⟨va,vc,rfl⟩:∃a cap,v= .slice a L.length cap:=by
   rcases Mem.ze4 hown with ⟨rfl,rfl⟩|⟨b,o,cap,rfl,_⟩ <;> exact ⟨_,_,rfl⟩
  clear hb h6 hn;go_wp2_with (first |(go_at_call 54;refine (za hnr _).mono ?_;rintro e w' ⟨rfl,hw⟩;obtain rfl:=hw.symm)|(at_builtin;refine wpList_append_own _ rfl _ _ 83 rfl B 9 i0 (.string ⟨#[]⟩) 1 16 Tryz.underlying83 hi hz0 hz1 hz2 rfl (by decide) _ _ _ rfl (hown.alloc _) ⟨w1.heap.size,0,none⟩ 1 1 [.string n] rfl rfl (Mem.zd0 _ _ _) (Mem.one_str _) (by unfold maxLen;omega) (by omega) (by simp;omega) ?_))
  intro v' w2 hown' hgrow _;have hbel:=Mem.ze0 (Below.refl B w1) hs1 hown hgrow;have hown2:w2.ownsRow B 9 1 v' (L++[n]).length ((L++[n]).map Value.string):=by simpa using hown'
  have hR2:=hR.below hbel hbase;have i1:=hide (Mem.ze4 hown2);clear hgrow hown hown' hown2 hbel hR;go_wp2_with fail
  refine (zk1.any _ (L++[n]) _ (by simp;omega) (HNS.out L (za hL).1 hl6 trivial) (za i1)).mono ?_;rintro e w3 ⟨rfl,hb3⟩;have hR3:=hR2.call hb3;obtain ⟨⟨c0,c1,c2⟩,⟨f0,f1,f2⟩⟩:=hR3.cells;have hB:=hR3.bel;clear hb3 hR2 hR3;generalize Pl.glue (L++[n])=body at E ⊢;go_wp2
  refine bodyPost_ret (v:= .agg #[.string body, .int .i64 0, .int .i64 0]) (by simp [results,Tryz.results42,go_sem,c0,c1,c2]) rfl ⟨by rw [za E],?_⟩;exact ((hB.setCell (by simp) _).setCell (by simp) _).setCell (by simp) _
end zh3
end
end Go.Proofs.YtpggbphcbcogdaaGreatDoor
