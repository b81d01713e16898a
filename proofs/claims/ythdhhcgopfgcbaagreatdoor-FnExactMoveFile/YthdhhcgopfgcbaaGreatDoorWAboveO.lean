import Derived.Test.YthdhhcgopfgcbaaGreatDoorWAboveS
namespace Go.Proofs.YthdhhcgopfgcbaaGreatDoor
open Go.RowKit
namespace zi6
set_option linter.unusedSimpArgs false in
set_option maxRecDepth 100000 in
set_option maxHeartbeats 1000000 in
theorem above_one (a0:Option Addr) (cap0:Nat) (L0:List Pl.Nd) (vs:Option Addr) (ns cs:Nat) (p:ByteArray) (N:List ByteArray) (w:World) (hN:Pl.names p=N) (h1:N.length=1) (hps:p.size≤1048576):
  Calls Tryz.prog 35 #[.agg #[.slice a0 L0.length cap0], .agg #[.slice vs ns cs], .string p] w fun e w'=>e= .returned (.agg #[.slice a0 L0.length cap0])∧Below w.heap.size w w':=by
 have HNA:=hide (fun W=>zg9.zs1 p W hps);rw [hN] at HNA;have b0:Below w.heap.size w (((w.alloc (.cells #[.slice a0 L0.length cap0] 43)).alloc (.cells #[.slice vs ns cs] 43)).alloc (.cells #[.slice none 0 0] 43)):=(((Below.refl _ _).alloc (Nat.le_refl _) _).alloc (by simp) _).alloc (by simp;omega) _;have T0:Mem.Blk (((w.alloc (.cells #[.slice a0 L0.length cap0] 43)).alloc (.cells #[.slice vs ns cs] 43)).alloc (.cells #[.slice none 0 0] 43)) w.heap.size #[.slice a0 L0.length cap0] 43:=((Mem.Blk.new _ _ _).alloc _).alloc _
 have R0:Mem.Blk (((w.alloc (.cells #[.slice a0 L0.length cap0] 43)).alloc (.cells #[.slice vs ns cs] 43)).alloc (.cells #[.slice none 0 0] 43)) (w.heap.size+2) #[.slice none 0 0] 43:=by
  have h:=Mem.Blk.new ((w.alloc (.cells #[.slice a0 L0.length cap0] 43)).alloc (.cells #[.slice vs ns cs] 43)) #[.slice none 0 0] 43
  simpa using h
 go_enter Tryz.func35,Tryz.ntmps35
 go_wp2_with fail
 refine (za HNA _).mono ?_;rintro e w1 ⟨vl,rfl,hown,b1⟩;have Q0:=hide (⟨b0.trans (b1.mono b0.size),T0.call b1,R0.call b1⟩:Below w.heap.size w w1∧Mem.Blk w1 w.heap.size #[.slice a0 L0.length cap0] 43∧Mem.Blk w1 (w.heap.size+2) #[.slice none 0 0] 43)
 obtain ⟨gl,cl,rfl⟩:∃g cap,vl= .slice (some ⟨g,0,none⟩) N.length cap:=by
  rcases hown.2 with ⟨_,h0⟩|⟨g,cap,cur,hv, -⟩
  ·omega
  ·exact ⟨g,cap,hv⟩
 clear HNA b0 T0 R0 b1 hown;go_wp2
 go_loopw [9] (fun i wr=>i= .int .i64 0∧Hid (Below w.heap.size w wr∧Mem.Blk wr w.heap.size #[.slice a0 L0.length cap0] 43∧Mem.Blk wr (w.heap.size+2) #[.slice none 0 0] 43)) (fun i _=>N.length - (intOf i).toNat)
 case atStart=>exact ⟨rfl,Q0⟩
 case round=>
  obtain ⟨rfl,HA⟩:=hrel;clear Q0;obtain ⟨hb,hT,hR⟩:=za HA;have hwl:IntKind.i64.wrap ((N.length:Int) - 1)=(N.length:Int) - 1:=by simp only [IntKind.wrap_i64];omega
  have hjN:¬ (0:Int)<(N.length:Int) - 1:=by omega
  have c0:=hT.cell 0;have f6:=hR.fr 0;have c6:=hR.cell 0;simp only [kA0,kA1] at c0 c6;have HB:=hide hb;clear hb hT hR HA;go_wp2_with fail
  refine bodyPost_ret (v:= .agg #[.slice a0 L0.length cap0]) (by simp [results,Tryz.results35,go_sem,c6]) rfl ⟨rfl,(za HB).setCell (by show w.heap.size≤w.heap.size+1+1;omega) _⟩
theorem above_all (a0:Option Addr) (cap0:Nat) (L0 S:List Pl.Nd) (vs:Option Addr) (cs:Nat) (p:ByteArray) (w:World) (hnm:∀t∈Pl.names p,Pl.ze t=true) (h1:1≤(Pl.names p).length) (h6:(Pl.names p).length≤6) (hps:p.size≤1048576)
  (hok:zc5.okA w a0 cap0 L0) (hv:Mem.za2 w a0 L0) (hL0:L0.length≤100) (hs0:∀m∈L0,m.path.size≤8000) (hsn:Mem.za2 w vs S) (hSl:S.length≤1000) (hall:∀q∈Pl.ways (Pl.names p) ((Pl.names p).length - 1),∃d,Pl.lk S q=some d):
  Calls Tryz.prog 35 #[.agg #[.slice a0 L0.length cap0], .agg #[.slice vs S.length cs], .string p] w fun e w'=>∃a' cap',e= .returned (.agg #[.slice a' (Pl.abvN S L0 (Pl.ways (Pl.names p) ((Pl.names p).length - 1))).length cap'])∧zc5.okA w' a' cap' (Pl.abvN S L0 (Pl.ways (Pl.names p) ((Pl.names p).length - 1)))∧Mem.za2 w' a' (Pl.abvN S L0 (Pl.ways (Pl.names p) ((Pl.names p).length - 1)))∧Below w.heap.size w w':=by
 by_cases h:(Pl.names p).length=1
 ·have e:Pl.ways (Pl.names p) ((Pl.names p).length - 1)=[]:=by rw [h];rfl
  rw [e];refine (above_one a0 cap0 L0 vs S.length cs p (Pl.names p) w rfl h hps).mono ?_;rintro e w' ⟨rfl,b⟩;exact ⟨a0,cap0,rfl,zc5.zk8 hok b.size,Mem.za0 hv b,b⟩
 ·obtain ⟨d,hd⟩:=hall _ (List.mem_of_getElem? (Pl.wayK_get (L:=Pl.names p) (k:=(Pl.names p).length - 1) (j:=0) (by omega)));obtain ⟨k,hk⟩:=List.getElem?_of_mem (List.mem_of_find?_eq_some hd);obtain ⟨gs,os,e,hg, -⟩:=hsn k d hk;subst e
  exact above_any a0 cap0 L0 S gs os cs p (Pl.names p) w rfl hnm h1 h6 hps (fun j=>by
   have e1:=Pl.zy8 ((Pl.names p).take j) (fun t ht=>(Pl.zr4 (hnm t (List.mem_of_mem_take ht))).2.2.2);have e2:((Pl.names p).take j).length≤6:=by rw [List.length_take];omega
   omega) hok hv hL0 hs0 hsn hg hSl hall
end zi6
end Go.Proofs.YthdhhcgopfgcbaaGreatDoor
