/- Several texts of one claim in one file: WCutS, WRemoveS. -/
import Derived.Test.YthdhhcgopfgcbaaGreatDoorG37
import Derived.Test.YthdhhcgopfgcbaaGreatDoorWL07
namespace Go.Proofs.YthdhhcgopfgcbaaGreatDoor
section
open Go.RowKit
namespace WCutS
theorem zn2:(Tryz.prog.info? 47).map (fun i=>(i.zero,i.size,i.bytes))=some (some (.agg #[.string ⟨#[]⟩, .int .i64 0, .string ⟨#[]⟩, .int .i64 0, .int .i64 0]),5,56):=by kernel_rfl
structure At (w wr:World) (a:Option Addr) (cap:Nat) (L:List Pl.Nd) (p:ByteArray) (k:Nat) (v:Value):Prop where
 bel:Below w.heap.size w wr
 one:Mem.Blk wr w.heap.size #[.slice a L.length cap] 43
 two:Mem.Blk wr (w.heap.size+1) #[.slice none 0 0] 43
 out:Mem.Blk wr (w.heap.size+1+1) #[v] 43
 own:Mem.ownN wr (w.heap.size+3) v (Pl.offL p (L.take k))
set_option linter.unusedSimpArgs false in
set_option maxRecDepth 100000 in
set_option maxHeartbeats 2000000 in
theorem l03_any (a:Option Addr) (cap:Nat) (L:List Pl.Nd) (p:ByteArray) (w:World) (hl:L.length≤1048576) (hv:Mem.za2 w a L) (hp:p.size≤1048576):
  Calls Tryz.prog 38 #[.agg #[.slice a L.length cap], .string p] w fun e w'=>∃v,e= .returned (.agg #[v])∧Mem.ownN w' w.heap.size v (Pl.offL p L)∧Below w.heap.size w w':=by
 obtain ⟨i0,hi,hz0,hz1,hz2⟩:=info_parts zn2;have HV:=hide hv;clear hv
 have H0:At w (((w.alloc (.cells #[.slice a L.length cap] 43)).alloc (.cells #[.slice none 0 0] 43)).alloc (.cells #[.slice none 0 0] 43)) a cap L p 0 (.slice none 0 0):=
  ⟨(((Below.refl _ _).alloc (Nat.le_refl _) _).alloc (by simp) _).alloc (by simp;omega) _,((Mem.Blk.new _ _ _).alloc _).alloc _,(by have h:=(Mem.Blk.new (w.alloc (.cells #[.slice a L.length cap] 43)) #[.slice none 0 0] 43).alloc (.cells #[.slice none 0 0] 43);rwa [show (w.alloc (.cells #[.slice a L.length cap] 43)).heap.size=w.heap.size+1 by simp] at h),Mem.zp3 _ _ _ _,by simpa [Pl.offL] using Mem.zb5 _ _⟩
 have HH:=hide H0;clear H0;go_enter Tryz.func38,Tryz.ntmps38
 go_wp2
 go_loopw [6] (fun i wr=>∃k:Nat,k≤L.length∧i= .int .i64 (k:Int)∧Hid (∃v,At w wr a cap L p k v)) (fun i _=>L.length - (intOf i).toNat)
 case atStart=>exact ⟨0,Nat.zero_le _,rfl,⟨_,za HH⟩⟩
 case round=>
  obtain ⟨k,hk,rfl,HA⟩:=hrel;obtain ⟨v,A⟩:=za HA;obtain ⟨av,capv,hvs⟩:=Mem.za4 A.own;subst hvs;have c1:=A.one.cell 0;have c3:=A.out.cell 0;have f3:=A.out.fr 0;simp only [kA0,kA1] at c1 c3;have KA:=hide A;clear HA A HH;by_cases hlt:k<L.length
  ·obtain ⟨n,hn⟩:∃n,L[k]? =some n:=⟨_,List.getElem?_eq_getElem hlt⟩;obtain ⟨b,o,rfl,hb,q0,q1,q2,q3,q4⟩:=(Mem.za0 (za HV) (za KA).bel) k n hn;have y1:(k:Int)<(L.length:Int):=by omega
   have y3:(0:Int)≤(k:Int):=by omega
   have hcu:=hide (zg9.yn7 n.path p wr hp);cases hun:Pl.under n.path p
   ·rw [hun] at hcu;have HPL:=hide (Pl.offN_in hn hun);have HLEN:=hide (Pl.offN_len L p k);have OWD:Hid (Mem.ownN wr.drew (w.heap.size+3) (.slice av (Pl.offL p (L.take k)).length capv) (Pl.offL p (L.take k))):=(za KA).own;have BLD:Hid (Mem.Blk wr.drew (w.heap.size+1+1) #[.slice av (Pl.offL p (L.take k)).length capv] 43):=(za KA).out;have BL2:Hid (Mem.Blk wr.drew (w.heap.size+1) #[.slice none 0 0] 43):=(za KA).two;have HLT:=hide (Mem.ze3 (za KA).own);have HSZ:Hid (w.heap.size+1+1<wr.drew.heap.size):=(za KA).out.lt
    have HV2:Hid (∀W',Below w.heap.size w W'→W'.cell? ⟨b,o+k*5,none⟩=some (.string n.path)∧W'.cell? ⟨b,o+k*5+1,none⟩=some (.int .i64 n.kind)∧W'.cell? ⟨b,o+k*5+2,none⟩=some (.string n.data)∧W'.cell? ⟨b,o+k*5+3,none⟩=some (.int .i64 n.time)∧W'.cell? ⟨b,o+k*5+4,none⟩=some (.int .i64 n.mark)):=fun W' hb'=>by
     obtain ⟨b',o',e,_,z0,z1,z2,z3,z4⟩:=(Mem.za0 (za HV) hb') k n hn;cases e
     exact ⟨z0,z1,z2,z3,z4⟩
    have B0:Below w.heap.size w wr.drew:=by have h:=(za KA).bel;exact ⟨h.os,h.tape,h.output,h.size,h.block⟩
    have ONE:Mem.Blk wr.drew w.heap.size #[.slice (some ⟨b,o,none⟩) L.length cap] 43:=(za KA).one;clear hn hun KA HV;obtain ⟨q,k0,d,t,m⟩:=n;simp only at q0 q1 q2 q3 q4 hcu HPL HV2;go_wp2_with fail
    refine (za hcu).mono ?_;rintro e wY ⟨rfl,rfl⟩;clear hcu;go_wp2_with fail
    have MK:Hid (∀W',Below w.heap.size w W'→Mem.Blk W' w.heap.size #[.slice (some ⟨b,o,none⟩) L.length cap] 43→(Below w.heap.size w W'∧Mem.Blk W' w.heap.size #[.slice (some ⟨b,o,none⟩) L.length cap] 43∧W'.cell? ⟨w.heap.size,0,none⟩=some (.slice (some ⟨b,o,none⟩) L.length cap)∧W'.cell? ⟨b,o+k*5,none⟩=some (.string q)∧W'.cell? ⟨b,o+k*5+1,none⟩=some (.int .i64 k0)∧W'.cell? ⟨b,o+k*5+2,none⟩=some (.string d)∧W'.cell? ⟨b,o+k*5+3,none⟩=some (.int .i64 t)∧W'.cell? ⟨b,o+k*5+4,none⟩=some (.int .i64 m))):=fun W' h1 h2=>⟨h1,h2,h2.cell 0,za HV2 W' h1⟩;clear q0 q1 q2 q3 q4 c1 c3 f3
    refine wp_region_held_drew (S:=fun W'=>Below w.heap.size w W'∧Mem.Blk W' w.heap.size #[.slice (some ⟨b,o,none⟩) L.length cap] 43∧W'.cell? ⟨w.heap.size,0,none⟩=some (.slice (some ⟨b,o,none⟩) L.length cap)∧W'.cell? ⟨b,o+k*5,none⟩=some (.string q)∧W'.cell? ⟨b,o+k*5+1,none⟩=some (.int .i64 k0)∧W'.cell? ⟨b,o+k*5+2,none⟩=some (.string d)∧W'.cell? ⟨b,o+k*5+3,none⟩=some (.int .i64 t)∧W'.cell? ⟨b,o+k*5+4,none⟩=some (.int .i64 m)) (by kernel_rfl) ?_ (fun hHeld=>?_)
    ·exact za MK _ B0 ONE
    clear B0 ONE;generalize wY.drew=WD at hHeld OWD BLD BL2 HSZ ⊢;have cD:=(za BLD).cell 0;simp only [kA0,kA1] at cD;refine TB 0 ?_;refine TB 2 ?_;refine TB 3 ?_;refine TB 4 ?_;refine TB 5 ?_;refine TB 6 ?_;refine wpAnyH_ready (rs:=[1,7]) (by kernel_rfl) (by simp) ?_;refine AllReadyH.cons rfl (fun K hK=>?_) (AllReadyH.cons rfl (fun K hK=>?_) AllReadyH.nil)
    ·go_simp
     refine hK.out _ _ ?_ (fun hHeld=>?_)
     ·exact za MK _ hHeld.1 hHeld.2.1
     clear hK K
     try simp only [Act.put,kBs]
     refine RN 7 fun K hK=>?_;go_simp
     refine hK.out _ _ ?_ (fun hHeld=>?_)
     ·exact za MK _ (hHeld.1.alloc hHeld.1.size _) (hHeld.2.1.alloc _)
     clear hK K
     try simp only [Act.put,kBs]
     refine RN 8 fun K hK=>?_;refine Mem.zm0 rfl _ _ 41 rfl (w.heap.size+3) 47 i0 _ 5 56 Tryz.underlying41 hi hz0 hz1 hz2 rfl (by decide) _ _ _ rfl (Mem.zf5 (za OWD) _) ⟨WD.heap.size,0,none⟩ 1 1 [.string q, .int .i64 k0, .string d, .int .i64 t, .int .i64 m] rfl rfl (Mem.zp1 WD ⟨q,k0,d,t,m⟩ _) (Mem.zm9 ⟨q,k0,d,t,m⟩) (by have :=za HLEN;unfold maxLen;omega) (by have :=za HLEN;omega) (by have :=za HSZ;simp;omega) ?_;intro v' wZ hownZ hgrow;obtain ⟨a',cap',hv'⟩:=Mem.za4 hownZ;subst hv';have blkZ:=((za BLD).alloc (.cells #[.string q, .int .i64 k0, .string d, .int .i64 t, .int .i64 m] 47)).grown hgrow (fun e=>by have :=(za HLT _ e.symm).1;omega);have H2Z:=hide ((((za BL2).alloc (.cells #[.string q, .int .i64 k0, .string d, .int .i64 t, .int .i64 m] 47)).grown hgrow (fun e=>by have :=(za HLT _ e.symm).1;omega)))
     refine hK.out _ _ ?_ (fun hHeld=>?_)
     ·exact za MK _ (hHeld.1.grown hgrow (by have :=hHeld.1.size;omega) (fun q hq=>by have :=(za HLT q hq).1;omega)) (hHeld.2.1.grown hgrow (fun e=>by have :=(za HLT _ e.symm).1;omega))
     clear hK K
     try simp only [Act.put,kBs]
     have cZ:=blkZ.cell 0;have fZ:=blkZ.fr 0;simp only [kA0,kA1] at cZ;have BLZ:=hide blkZ;have OWZ:=hide hownZ;clear blkZ hownZ;refine TB 9 ?_;refine RN 10 fun K hK=>?_;go_simp
     refine hK.out _ _ ?_ (fun hHeld=>?_)
     ·exact za MK _ (hHeld.1.setCell (by show w.heap.size≤w.heap.size+1+1;omega) _) (hHeld.2.1.far _ _ (by show w.heap.size≠w.heap.size+1+1;omega))
     clear hK K
     try simp only [Act.put,kBs]
     refine wpAnyH_done (by kernel_rfl) ?_ _
     have FIN:Hid (At w (wZ.setCell ⟨w.heap.size+1+1,0,none⟩ (.slice a' ((Pl.offL p (L.take k)).length+1) cap')) (some ⟨b,o,none⟩) cap L p (k+1) (.slice a' ((Pl.offL p (L.take k)).length+1) cap')):=
      ⟨hHeld.1,hHeld.2.1,(za H2Z).far _ _ (by show w.heap.size+1≠w.heap.size+1+1;omega),(za BLZ).put 0 _,by
       rw [za HPL]
       exact Mem.za8 (Mem.zk5 (L:=Pl.offL p (L.take k)) (n:=⟨q,k0,d,t,m⟩) (za OWZ)) _ _ (by show w.heap.size+1+1<w.heap.size+3;omega)⟩
     clear hHeld OWZ BLZ hgrow cZ fZ;go_wp2
     go_roundw
     case rel=>exact ⟨k+1,by omega,by go_num,⟨_,za FIN⟩⟩
     case measure=>simp [intOf];omega
    ·go_simp
     refine hK.out _ _ ?_ (fun hHeld=>?_)
     ·exact za MK _ (hHeld.1.alloc hHeld.1.size _) (hHeld.2.1.alloc _)
     clear hK K
     try simp only [Act.put,kBs]
     have cD2:=((za BLD).alloc (.cells #[.string q, .int .i64 k0, .string d, .int .i64 t, .int .i64 m] 47)).cell 0;simp only [kA0,kA1] at cD2;refine RN 1 fun K hK=>?_;go_simp
     refine hK.out _ _ ?_ (fun hHeld=>?_)
     ·exact za MK _ hHeld.1 hHeld.2.1
     clear hK K
     try simp only [Act.put,kBs]
     refine RN 8 fun K hK=>?_;refine Mem.zm0 rfl _ _ 41 rfl (w.heap.size+3) 47 i0 _ 5 56 Tryz.underlying41 hi hz0 hz1 hz2 rfl (by decide) _ _ _ rfl (Mem.zf5 (za OWD) _) ⟨WD.heap.size,0,none⟩ 1 1 [.string q, .int .i64 k0, .string d, .int .i64 t, .int .i64 m] rfl rfl (Mem.zp1 WD ⟨q,k0,d,t,m⟩ _) (Mem.zm9 ⟨q,k0,d,t,m⟩) (by have :=za HLEN;unfold maxLen;omega) (by have :=za HLEN;omega) (by have :=za HSZ;simp;omega) ?_;intro v' wZ hownZ hgrow;obtain ⟨a',cap',hv'⟩:=Mem.za4 hownZ;subst hv';have blkZ:=((za BLD).alloc (.cells #[.string q, .int .i64 k0, .string d, .int .i64 t, .int .i64 m] 47)).grown hgrow (fun e=>by have :=(za HLT _ e.symm).1;omega);have H2Z:=hide ((((za BL2).alloc (.cells #[.string q, .int .i64 k0, .string d, .int .i64 t, .int .i64 m] 47)).grown hgrow (fun e=>by have :=(za HLT _ e.symm).1;omega)))
     refine hK.out _ _ ?_ (fun hHeld=>?_)
     ·exact za MK _ (hHeld.1.grown hgrow (by have :=hHeld.1.size;omega) (fun q hq=>by have :=(za HLT q hq).1;omega)) (hHeld.2.1.grown hgrow (fun e=>by have :=(za HLT _ e.symm).1;omega))
     clear hK K
     try simp only [Act.put,kBs]
     have cZ:=blkZ.cell 0;have fZ:=blkZ.fr 0;simp only [kA0,kA1] at cZ;have BLZ:=hide blkZ;have OWZ:=hide hownZ;clear blkZ hownZ;refine TB 9 ?_;refine RN 10 fun K hK=>?_;go_simp
     refine hK.out _ _ ?_ (fun hHeld=>?_)
     ·exact za MK _ (hHeld.1.setCell (by show w.heap.size≤w.heap.size+1+1;omega) _) (hHeld.2.1.far _ _ (by show w.heap.size≠w.heap.size+1+1;omega))
     clear hK K
     try simp only [Act.put,kBs]
     refine wpAnyH_done (by kernel_rfl) ?_ _
     have FIN:Hid (At w (wZ.setCell ⟨w.heap.size+1+1,0,none⟩ (.slice a' ((Pl.offL p (L.take k)).length+1) cap')) (some ⟨b,o,none⟩) cap L p (k+1) (.slice a' ((Pl.offL p (L.take k)).length+1) cap')):=
      ⟨hHeld.1,hHeld.2.1,(za H2Z).far _ _ (by show w.heap.size+1≠w.heap.size+1+1;omega),(za BLZ).put 0 _,by
       rw [za HPL]
       exact Mem.za8 (Mem.zk5 (L:=Pl.offL p (L.take k)) (n:=⟨q,k0,d,t,m⟩) (za OWZ)) _ _ (by show w.heap.size+1+1<w.heap.size+3;omega)⟩
     clear hHeld OWZ BLZ hgrow cZ fZ;go_wp2
     go_roundw
     case rel=>exact ⟨k+1,by omega,by go_num,⟨_,za FIN⟩⟩
     case measure=>simp [intOf];omega
   ·rw [hun] at hcu
    have H2:Hid (At w wr (some ⟨b,o,none⟩) cap L p (k+1) (.slice av (Pl.offL p (L.take k)).length capv)):=
     ⟨(za KA).bel,(za KA).one,(za KA).two,(za KA).out,by have h:=(za KA).own;rw [Pl.offN_out hn hun];exact h⟩
    clear KA hun hn;go_wp2_with fail
    refine (za hcu).mono ?_;rintro e wY ⟨rfl,rfl⟩;clear hcu;go_wp2
    go_roundw
    case rel=>exact ⟨k+1,by omega,by go_num,⟨_,za H2⟩⟩
    case measure=>simp [intOf];omega
  ·have y1:¬ (k:Int)<(L.length:Int):=by omega
   obtain rfl:k=L.length:=by omega
   have c2:=(za KA).two.cell 0;have f2:=(za KA).two.fr 0;simp only [kA0,kA1] at c2;go_wp2
   refine bodyPost_ret (v:= .agg #[.slice av (Pl.offL p (L.take L.length)).length capv]) (by simp [results,Tryz.results38,go_sem,c2]) rfl ⟨_,rfl,?_,?_⟩
   ·have h:=(za KA).own;rw [show Pl.offL p (L.take L.length)=Pl.offL p L by rw [List.take_length]] at h ⊢;exact Mem.zb3 (Mem.za8 h _ _ (by show w.heap.size+1<w.heap.size+3;omega)) (by omega)
   ·exact (za KA).bel.setCell (by show w.heap.size≤w.heap.size+1;omega) _
end WCutS
end
section
open Go.RowKit Go.Maps
namespace Pl
theorem node_dir (p:ByteArray) (t:Int):za7 ⟨p,1,⟨#[]⟩,t,0⟩=(wayB p&&decide (0≤t∧t≤1000000)):=by
 have e:(⟨#[]⟩:ByteArray).size=0:=rfl;simp [za7,wayB,zj9,e]
theorem rem_long {L:List Nd} {p:ByteArray} {c:Int} (h:8000<p.size):chgC L ⟨p,1,⟨#[]⟩,0,0⟩ c=2:=by rw [chgC,if_neg (by simp;omega)]
theorem rem_size {p:ByteArray} (h:p.size≤8000):p.size≤8000∧(⟨#[]⟩:ByteArray).size≤8000:=⟨h,by decide⟩
theorem rem_form {L:List Nd} {p:ByteArray} {c:Int} (h:p.size≤8000) (h2:zd0 L=false∨wayB p=false):chgC L ⟨p,1,⟨#[]⟩,0,0⟩ c=1:=by
 rw [chgC,if_pos (rem_size h),if_neg];rw [node_dir]
 rcases h2 with h2|h2 <;> simp [h2]
theorem rem_go {L:List Nd} {p:ByteArray} {c:Int} (h:p.size≤8000) (h2:zd0 L=true) (h3:wayB p=true):chgC L ⟨p,1,⟨#[]⟩,0,0⟩ c=c:=by
 rw [chgC,if_pos (rem_size h),if_pos ⟨h2,by rw [node_dir,h3];rfl⟩]
theorem rem_none {L:List Nd} {p:ByteArray} (h:p.size≤8000) (h2:zd0 L=true) (h3:wayB p=true) (h4:L.find? (fun m=>decide (m.path=p))=none):chgC L ⟨p,1,⟨#[]⟩,0,0⟩ (remC L p)=6:=by rw [rem_go h h2 h3,remC,if_pos h4]
theorem rem_over {L:List Nd} {p:ByteArray} (h:p.size≤8000) (h2:zd0 L=true) (h3:wayB p=true) (h4:L.find? (fun m=>decide (m.path=p))≠none) (h5:ze4 L p=true):chgC L ⟨p,1,⟨#[]⟩,0,0⟩ (remC L p)=10:=by rw [rem_go h h2 h3,remC,if_neg h4,if_pos h5]
theorem rem_ok {L:List Nd} {p:ByteArray} (h:p.size≤8000) (h2:zd0 L=true) (h3:wayB p=true) (h4:L.find? (fun m=>decide (m.path=p))≠none) (h5:ze4 L p=false):chgC L ⟨p,1,⟨#[]⟩,0,0⟩ (remC L p)=0:=by rw [rem_go h h2 h3,remC,if_neg h4,if_neg (by rw [h5];decide)]
end Pl
namespace ze6
set_option linter.unusedSimpArgs false in
set_option maxRecDepth 100000 in
set_option maxHeartbeats 2000000 in
theorem remove_spec (a:Option Addr) (cap:Nat) (L:List Pl.Nd) (p:ByteArray) (w:World) (hl:L.length≤1048576) (hv:Mem.za2 w a L) (hok:∀n∈L,n.path.size≤1048576∧n.data.size≤1048576) (hp:p.size≤1048576):
  Calls Tryz.prog 37 #[.agg #[.slice a L.length cap], .string p] w fun e w'=>∃v,e= .returned (.agg #[v, .int .i64 (Pl.chgC L (⟨p,1,⟨#[]⟩,0,0⟩:Pl.Nd) (Pl.remC L p))])∧Mem.ownN w' w.heap.size v (Pl.chgO L ⟨p,1,⟨#[]⟩,0,0⟩ (Pl.remC L p) (Pl.offL p L))∧Below w.heap.size w w':=by
 have b0:Below w.heap.size w ((w.alloc (.cells #[.slice a L.length cap] 43)).alloc (.cells #[.slice none 0 0, .int .i64 0] 64)):=(bE0).alloc (by simp) _;have T0:=(Mem.Blk.new w #[.slice a L.length cap] 43).alloc (.cells #[.slice none 0 0, .int .i64 0] 64);have R0:Mem.Blk ((w.alloc (.cells #[.slice a L.length cap] 43)).alloc (.cells #[.slice none 0 0, .int .i64 0] 64)) (w.heap.size+1) #[.slice none 0 0, .int .i64 0] 64:=Mem.zg4 _ _ _;have HPL:=hide (fun W (b:Below w.heap.size w W)=>ya5.zp9 a cap L W hl (Mem.za0 hv b) hok);have HPA:=hide (fun W=>yk0 p W hp);have HAT:=hide (fun W (b:Below w.heap.size w W)=>zl8.zt2 a cap L p W hl (Mem.za0 hv b));have HOV:=hide (fun W (b:Below w.heap.size w W)=>WPutS.over_any a cap L p W hl (Mem.za0 hv b) hp)
 have HCU:=hide (fun W (b:Below w.heap.size w W)=>WCutS.l03_any a cap L p W hl (Mem.za0 hv b) hp);clear hv hok;by_cases hz:8000<p.size
 ·have t0:(8000:Int)<(p.size:Int):=by omega
  go_enter Tryz.func37,Tryz.ntmps37
  have EC:Hid (Pl.chgC L (⟨p,1,⟨#[]⟩,0,0⟩:Pl.Nd) (Pl.remC L p)=2):=hide (Pl.rem_long hz);go_wp2_with fail
  refine (zj1.zc6 2 _).mono ?_;rintro e wI ⟨rfl,bI⟩;have bJ:=b0.trans (bI.mono b0.size);have RJ:=R0.call bI;obtain ⟨⟨d0,d1⟩,f0,f1⟩:=jf2 RJ;go_wp2
  refine bodyPost_ret (v:= .agg #[.slice none 0 0, .int .i64 2]) (by simp [results,Tryz.results37,go_sem,d0,d1]) rfl ⟨.slice none 0 0,by rw [za EC],by rw [Pl.chgO,za EC];exact Mem.zb5 _ _,?_⟩;exact (bJ.setCell (by show w.heap.size≤w.heap.size+1;omega) _).setCell (by show w.heap.size≤w.heap.size+1;omega) _
 have t0:¬ (8000:Int)<(p.size:Int):=by omega
 have hz':p.size≤8000:=by omega
 have c0:=T0.cell 0;simp only [kA0,kA1] at c0;go_enter Tryz.func37,Tryz.ntmps37
 go_wp2_with fail
 refine (za HPL _ b0).mono ?_;rintro e w1 ⟨rfl,b1⟩;have bw1:=b0.trans (b1.mono b0.size);have T1:=T0.call b1;have R1:=R0.call b1;clear b0 b1 T0 R0 c0;cases hP:Pl.zd0 L
 ·skip
  have EC:Hid (Pl.chgC L (⟨p,1,⟨#[]⟩,0,0⟩:Pl.Nd) (Pl.remC L p)=1):=hide (Pl.rem_form hz' (.inl hP));go_wp2_with fail
  refine (zj1.zc6 1 _).mono ?_;rintro e wI ⟨rfl,bI⟩;have bJ:=bw1.trans (bI.mono bw1.size);have RJ:=R1.call bI;obtain ⟨⟨d0,d1⟩,f0,f1⟩:=jf2 RJ;go_wp2
  refine bodyPost_ret (v:= .agg #[.slice none 0 0, .int .i64 1]) (by simp [results,Tryz.results37,go_sem,d0,d1]) rfl ⟨.slice none 0 0,by rw [za EC],by rw [Pl.chgO,za EC];exact Mem.zb5 _ _,?_⟩;exact (bJ.setCell (by show w.heap.size≤w.heap.size+1;omega) _).setCell (by show w.heap.size≤w.heap.size+1;omega) _
 go_wp2_with fail
 refine (za HPA _).mono ?_;rintro e w2 ⟨rfl,b2⟩;have bw2:=bw1.trans (b2.mono bw1.size);have T2:=T1.call b2;have R2:=R1.call b2;have c0:=T2.cell 0;simp only [kA0,kA1] at c0;clear bw1 b2 T1 R1;cases hQ:Pl.wayB p
 ·skip
  have EC:Hid (Pl.chgC L (⟨p,1,⟨#[]⟩,0,0⟩:Pl.Nd) (Pl.remC L p)=1):=hide (Pl.rem_form hz' (.inr hQ));go_wp2_with fail
  refine (zj1.zc6 1 _).mono ?_;rintro e wI ⟨rfl,bI⟩;have bJ:=bw2.trans (bI.mono bw2.size);have RJ:=R2.call bI;obtain ⟨⟨d0,d1⟩,f0,f1⟩:=jf2 RJ;go_wp2
  refine bodyPost_ret (v:= .agg #[.slice none 0 0, .int .i64 1]) (by simp [results,Tryz.results37,go_sem,d0,d1]) rfl ⟨.slice none 0 0,by rw [za EC],by rw [Pl.chgO,za EC];exact Mem.zb5 _ _,?_⟩;exact (bJ.setCell (by show w.heap.size≤w.heap.size+1;omega) _).setCell (by show w.heap.size≤w.heap.size+1;omega) _
 go_wp2_with fail
 refine (za HAT _ bw2).mono ?_;rintro e w3 ⟨⟨r,rfl,hr⟩,b3⟩;have bw3:=bw2.trans (b3.mono bw2.size);have T3:=T2.call b3;have R3:=R2.call b3;have c0:=T3.cell 0;simp only [kA0,kA1] at c0;clear bw2 b3 T2 R2;by_cases h0:r<0
 ·skip
  have EC:Hid (Pl.chgC L (⟨p,1,⟨#[]⟩,0,0⟩:Pl.Nd) (Pl.remC L p)=6):=hide (Pl.rem_none hz' hP hQ (at_none hr h0));go_wp2_with fail
  refine (zj1.zc6 6 _).mono ?_;rintro e wI ⟨rfl,bI⟩;have bJ:=bw3.trans (bI.mono bw3.size);have RJ:=R3.call bI;obtain ⟨⟨d0,d1⟩,f0,f1⟩:=jf2 RJ;go_wp2
  refine bodyPost_ret (v:= .agg #[.slice none 0 0, .int .i64 6]) (by simp [results,Tryz.results37,go_sem,d0,d1]) rfl ⟨.slice none 0 0,by rw [za EC],by rw [Pl.chgO,za EC];exact Mem.zb5 _ _,?_⟩;exact (bJ.setCell (by show w.heap.size≤w.heap.size+1;omega) _).setCell (by show w.heap.size≤w.heap.size+1;omega) _
 go_wp2_with fail
 refine (za HOV _ bw3).mono ?_;rintro e w4 ⟨rfl,b4⟩;have bw4:=bw3.trans (b4.mono bw3.size);have T4:=T3.call b4;have R4:=R3.call b4;have c0:=T4.cell 0;simp only [kA0,kA1] at c0;clear bw3 b4 T3 R3;have hO:Pl.ze4 L p=Pl.ze4 L p:=rfl;generalize hOV:Pl.ze4 L p=o;rw [hOV] at hO;cases o
 rotate_left
 ·skip
  have EC:Hid (Pl.chgC L (⟨p,1,⟨#[]⟩,0,0⟩:Pl.Nd) (Pl.remC L p)=10):=hide (Pl.rem_over hz' hP hQ (ye8 hr (by omega)) hOV);go_wp2_with fail
  refine (zj1.zc6 10 _).mono ?_;rintro e wI ⟨rfl,bI⟩;have bJ:=bw4.trans (bI.mono bw4.size);have RJ:=R4.call bI;obtain ⟨⟨d0,d1⟩,f0,f1⟩:=jf2 RJ;go_wp2
  refine bodyPost_ret (v:= .agg #[.slice none 0 0, .int .i64 10]) (by simp [results,Tryz.results37,go_sem,d0,d1]) rfl ⟨.slice none 0 0,by rw [za EC],by rw [Pl.chgO,za EC];exact Mem.zb5 _ _,?_⟩;exact (bJ.setCell (by show w.heap.size≤w.heap.size+1;omega) _).setCell (by show w.heap.size≤w.heap.size+1;omega) _
 have EC:Hid (Pl.chgC L (⟨p,1,⟨#[]⟩,0,0⟩:Pl.Nd) (Pl.remC L p)=0):=hide (Pl.rem_ok hz' hP hQ (ye8 hr (by omega)) hOV);go_wp2_with fail
 refine (za HCU _ bw4).mono ?_;rintro e w5 ⟨v,rfl,own,b5⟩;obtain ⟨a',cap',rfl⟩:=Mem.za4 own;have OW:=hide own;have HS:=hide R4.lt;have bw5:=bw4.trans (b5.mono bw4.size);have R5:=R4.call b5;obtain ⟨⟨d0,d1⟩,f0,f1⟩:=jf2 R5;clear bw4 b5 T4 R4 own HCU;go_wp2
 refine bodyPost_ret (v:= .agg #[.slice a' (Pl.offL p L).length cap', .int .i64 0]) (by simp [results,Tryz.results37,go_sem,d0,d1]) rfl ⟨.slice a' (Pl.offL p L).length cap',by rw [za EC],?_,?_⟩
 ·rw [Pl.chgO,za EC,if_pos rfl];exact Mem.zb3 (Mem.za8 (Mem.za8 (za OW) _ _ (za HS)) _ _ (za HS)) (by have :=za HS;omega)
 ·exact (bw5.setCell (by show w.heap.size≤w.heap.size+1;omega) _).setCell (by show w.heap.size≤w.heap.size+1;omega) _
end ze6
end
end Go.Proofs.YthdhhcgopfgcbaaGreatDoor
