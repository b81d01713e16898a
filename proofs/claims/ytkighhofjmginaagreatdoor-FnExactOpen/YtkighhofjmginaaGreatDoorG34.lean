/- Several texts of one claim in one file: WSpS8, WSpS1. -/
import Derived.Test.YtkighhofjmginaaGreatDoorG33
namespace Go.Proofs.YtkighhofjmginaaGreatDoor
section
open Go.RowKit
namespace WSp
set_option linter.unusedSimpArgs false in
set_option maxRecDepth 100000 in
set_option maxHeartbeats 4000000 in
theorem where_any (s:Pl.Sp) (p:ByteArray) (w:World) (hp:p.size≤1048576) (hm:∀m∈s.M,m.p.size≤1048576) (hM:s.M.length≤1000) (hv:Mem.zc9 w s) (m:Pl.Mn) (hlm:Pl.zf9 (Pl.uR p) s.M s.M.length=m) (hu:Pl.under p m.p=true):
  Calls Tryz.prog 25 #[.agg s.cs, .string p] w fun e w'=>e= .returned (.tuple #[.agg #[.string m.p, .int .i64 m.i, .bool m.z], .string (Pl.rest p m.p)])∧Below w.heap.size w w':=by
 have HUN:=hide (fun W (t:Pl.Mn) (ht:t∈s.M)=>(zf3.under1_any p t.p W (hm t ht)).mono (R':=fun e w'=>e= .returned (.bool (Pl.uR p t))∧Below W.heap.size W w') (fun e w' h=>⟨h.1,h.2 ▸ Below.refl _ _⟩));have HRS:=hide (fun W=>(zf3.rest1_any p m.p W hp hu).mono (R':=fun e w'=>e= .returned (.string (Pl.rest p m.p))∧Below W.heap.size W w') (fun e w' h=>⟨h.1,h.2 ▸ Below.refl _ _⟩));have HV:=hide hv.zh9;have HLM:=hide hlm;clear hv hu hp hlm;generalize Pl.rest p m.p=RT at HRS ⊢;obtain ⟨mp,mi,mz⟩:=m;simp only at HRS ⊢;obtain ⟨ia,ic,N,ma,mc,M,ha,hc,H,next⟩:=s;unfold Pl.Sp.cs;simp only at HUN HV HLM hM hm ⊢;have HP:=hide hm;clear hm
 have b0:Below w.heap.size w (((w.alloc (.cells #[.slice ia N.length ic, .slice ma M.length mc, .slice ha H.length hc, .int .i64 next] 32)).alloc (.cells #[.string ⟨#[]⟩, .int .i64 0, .bool false] 56)).alloc (.cells #[.string ⟨#[]⟩, .int .i64 0, .bool false] 56)):=((bE0).alloc (by simp) _).alloc (by simp;omega) _;have V0:=hide (((Mem.Blk.new w #[.slice ia N.length ic, .slice ma M.length mc, .slice ha H.length hc, .int .i64 next] 32).alloc (.cells #[.string ⟨#[]⟩, .int .i64 0, .bool false] 56)).alloc (.cells #[.string ⟨#[]⟩, .int .i64 0, .bool false] 56))
 have U0:=hide ((Mem.Blk.new (w.alloc (.cells #[.slice ia N.length ic, .slice ma M.length mc, .slice ha H.length hc, .int .i64 next] 32)) #[.string ⟨#[]⟩, .int .i64 0, .bool false] 56).alloc (.cells #[.string ⟨#[]⟩, .int .i64 0, .bool false] 56));have Y0:=hide (Mem.Blk.new ((w.alloc (.cells #[.slice ia N.length ic, .slice ma M.length mc, .slice ha H.length hc, .int .i64 next] 32)).alloc (.cells #[.string ⟨#[]⟩, .int .i64 0, .bool false] 56)) #[.string ⟨#[]⟩, .int .i64 0, .bool false] 56);have n1:(w.alloc (.cells #[.slice ia N.length ic, .slice ma M.length mc, .slice ha H.length hc, .int .i64 next] 32)).heap.size=w.heap.size+1:=by simp
 have n2:((w.alloc (.cells #[.slice ia N.length ic, .slice ma M.length mc, .slice ha H.length hc, .int .i64 next] 32)).alloc (.cells #[.string ⟨#[]⟩, .int .i64 0, .bool false] 56)).heap.size=w.heap.size+2:=by simp
 rw [n1] at U0;rw [n2] at Y0;clear n1 n2;go_enter Tryz.func25,Tryz.ntmps25
 go_wp2
 go_loopw [7] (fun i wr=>∃k:Nat,k≤M.length∧i= .int .i64 (k:Int)∧Below w.heap.size w wr∧Hid (Mem.Blk wr w.heap.size #[.slice ia N.length ic, .slice ma M.length mc, .slice ha H.length hc, .int .i64 next] 32)∧Hid (Mem.Blk wr (w.heap.size+1) #[.string ⟨#[]⟩, .int .i64 0, .bool false] 56)∧Hid (Mem.Blk wr (w.heap.size+2) #[.string (Pl.zf9 (Pl.uR p) M k).p, .int .i64 (Pl.zf9 (Pl.uR p) M k).i, .bool (Pl.zf9 (Pl.uR p) M k).z] 56)) (fun i _=>M.length - (intOf i).toNat)
 case atStart=>
  exact ⟨0,Nat.zero_le _,rfl,b0,V0,U0,Y0⟩
 case round=>
  obtain ⟨k,hk,rfl,hbel,V2,U2,Y2⟩:=hrel;clear b0 V0 U0 Y0;have a1:=(za V2).cell 1;simp only [kGs] at a1;by_cases hlt:k<M.length
  ·obtain ⟨t,ht⟩:∃n,M[k]? =some n:=⟨_,List.getElem?_eq_getElem hlt⟩;obtain ⟨g,o,rfl,hg,q0,q1,q2⟩:=(za HV) k t ht;have c0:=(hbel.cell (p:=⟨g,_,none⟩) hg).trans q0;have c1:=(hbel.cell (p:=⟨g,_,none⟩) hg).trans q1;have c2:=(hbel.cell (p:=⟨g,_,none⟩) hg).trans q2;have HGL:Hid (g<wr.heap.size):=hide (Nat.lt_of_lt_of_le hg hbel.size);have u1:(k:Int)<(M.length:Int):=by omega
   have u3:(0:Int)≤(k:Int):=by omega
   have HC:=hide (fun W=>za HUN W t (List.mem_of_getElem? ht));have L1:=hide (fun h=>Pl.leadS_no (u:=Pl.uR p) ht h);have L2:=hide (fun h h2=>Pl.leadS_yes (u:=Pl.uR p) ht h h2);have L3:=hide (fun h h2=>Pl.leadS_short (u:=Pl.uR p) ht h h2);generalize hq:Pl.zf9 (Pl.uR p) M k=q at Y2 L1 L2 L3;generalize hL:Pl.zf9 (Pl.uR p) M (k+1)=q' at L1 L2 L3;have HL2:=hide hL;generalize Pl.uR p t=b at HC L1 L2 L3;obtain ⟨y0,y1,y2⟩:=jc3 (za Y2);clear q0 q1 q2 hg ht hq hL;cases b
   ·have HL:q'=q:=za L1 rfl;have HL:Pl.zf9 (Pl.uR p) M (k+1)=q:=(za HL2).trans HL;clear L1 L2 L3 HL2;have MK:Hid (∀W',Below wr.heap.size wr W'→(Below wr.heap.size wr W'∧W'.cell? ⟨w.heap.size,1,none⟩=some (.slice (some ⟨g,o,none⟩) M.length mc)∧W'.cell? ⟨w.heap.size+2,0,none⟩=some (.string q.p)∧W'.cell? ⟨w.heap.size+2,1,none⟩=some (.int .i64 q.i)∧W'.cell? ⟨w.heap.size+2,2,none⟩=some (.bool q.z)∧W'.cell? ⟨g,o+k*3,none⟩=some (.string t.p))):=fun W' hb=>⟨hb,((za V2).call hb).cell 1,((za Y2).call hb).cell 0,((za Y2).call hb).cell 1,((za Y2).call hb).cell 2,(hb.cell (p:=⟨_,_,none⟩) (za HGL)).trans c0⟩;go_wp2_with fail
    refine RG MK (bD _) fun hHeld=>?_;refine TB 0 ?_;refine TB 1 ?_;refine TB 2 ?_;refine TB 3 ?_;refine TB 4 ?_;refine TB 5 ?_;refine TB 6 ?_;refine RN 7 fun K hK=>?_;go_simp
    refine (za HC _).mono ?_;rintro e wX ⟨rfl,bX⟩;refine hK.out _ _ ?_ (fun hHeld=>?_)
    ·exact za MK _ (hHeld.1.trans (bX.mono hHeld.1.size))
    clear hK K
    try simp only [Act.put,kBs]
    refine TB 8 ?_;refine TC 9 ?_;refine TC 10 ?_;refine TC 11 ?_;refine TC 12 ?_;refine TC 13 ?_;refine TC 14 ?_;refine TC 15 ?_;refine TC 16 ?_;refine TC 17 ?_;refine TC 18 ?_;refine TC 19 ?_;refine TC 20 ?_;refine TC 21 ?_;refine TC 22 ?_;refine TC 23 ?_;refine TB 24 ?_;refine wpAnyH_done (by kernel_rfl) ?_ _;have bb:=hbel.trans (hHeld.1.mono hbel.size);have VV:=hide ((za V2).call hHeld.1);have YY:=hide ((za Y2).call hHeld.1);have UU:=hide ((za U2).call hHeld.1);have e0:=(hHeld.1.cell (p:=⟨_,_,none⟩) (za HGL)).trans c0;have e1:=(hHeld.1.cell (p:=⟨_,_,none⟩) (za HGL)).trans c1;have e2:=(hHeld.1.cell (p:=⟨_,_,none⟩) (za HGL)).trans c2;clear hHeld MK hbel V2 Y2 U2 a1 y0 y1 y2 c0 c1 c2;go_wp2
    go_roundw
    case rel=>exact ⟨k+1,by omega,by go_num,bb,VV,UU,hide (by rw [HL];exact za YY)⟩
    case measure=>simp [intOf];omega
   clear L1;by_cases hk0:k=0
   ·have HL:Pl.zf9 (Pl.uR p) M (k+1)=t:=(za HL2).trans (za L2 rfl (.inl hk0));have hk1:((k:Int)==0)=true:=by simpa using hk0
    have hk2:decide ((k:Int)=0)=true:=by simpa using hk0
    clear L2 L3 HL2 hk0;have MK:Hid (∀W',Below wr.heap.size wr W'→(Below wr.heap.size wr W'∧W'.cell? ⟨w.heap.size,1,none⟩=some (.slice (some ⟨g,o,none⟩) M.length mc)∧W'.cell? ⟨w.heap.size+2,0,none⟩=some (.string q.p)∧W'.cell? ⟨w.heap.size+2,1,none⟩=some (.int .i64 q.i)∧W'.cell? ⟨w.heap.size+2,2,none⟩=some (.bool q.z)∧W'.cell? ⟨g,o+k*3,none⟩=some (.string t.p))):=fun W' hb=>⟨hb,((za V2).call hb).cell 1,((za Y2).call hb).cell 0,((za Y2).call hb).cell 1,((za Y2).call hb).cell 2,(hb.cell (p:=⟨_,_,none⟩) (za HGL)).trans c0⟩;go_wp2_with fail
    refine RG MK (bD _) fun hHeld=>?_;refine TB 0 ?_;refine TB 1 ?_;refine TB 2 ?_;refine TB 3 ?_;refine TB 4 ?_;refine TB 5 ?_;refine TB 6 ?_;refine RN 7 fun K hK=>?_;go_simp
    refine (za HC _).mono ?_;rintro e wX ⟨rfl,bX⟩;refine hK.out _ _ ?_ (fun hHeld=>?_)
    ·exact za MK _ (hHeld.1.trans (bX.mono hHeld.1.size))
    clear hK K
    try simp only [Act.put,kBs]
    refine TB 8 ?_;refine TB 9 ?_;refine TB 10 ?_;refine TB 11 ?_;refine TC 12 ?_;refine TC 13 ?_;refine TC 14 ?_;refine TC 15 ?_;refine TC 16 ?_;refine TC 17 ?_;refine TC 18 ?_;refine TC 19 ?_;refine TC 20 ?_;refine TC 21 ?_;refine TC 22 ?_;refine TB 23 ?_;refine TB 24 ?_;refine wpAnyH_done (by kernel_rfl) ?_ _;have bb:=hbel.trans (hHeld.1.mono hbel.size);have VV:=hide ((za V2).call hHeld.1);have YY:=hide ((za Y2).call hHeld.1);have UU:=hide ((za U2).call hHeld.1);have e0:=(hHeld.1.cell (p:=⟨_,_,none⟩) (za HGL)).trans c0;have e1:=(hHeld.1.cell (p:=⟨_,_,none⟩) (za HGL)).trans c1;have e2:=(hHeld.1.cell (p:=⟨_,_,none⟩) (za HGL)).trans c2;clear hHeld MK hbel V2 Y2 U2 a1 y0 y1 y2 c0 c1 c2;have a1:=(za VV).cell 1;obtain ⟨⟨y0,y1,y2⟩,f0,f1,f2⟩:=jf3 (za YY);simp only [kGs] at a1
    have B3:=hide (((bb.setCell (p:=⟨w.heap.size+2,0,none⟩) (Nat.le_add_right _ _) (.string t.p)).setCell (p:=⟨w.heap.size+2,1,none⟩) (Nat.le_add_right _ _) (.int .i64 t.i)).setCell (p:=⟨w.heap.size+2,2,none⟩) (Nat.le_add_right _ _) (.bool t.z));have V3:=hide ((((za VV).far ⟨w.heap.size+2,0,none⟩ (.string t.p) (by show w.heap.size≠w.heap.size+2;omega)).far ⟨w.heap.size+2,1,none⟩ (.int .i64 t.i) (by show w.heap.size≠w.heap.size+2;omega)).far ⟨w.heap.size+2,2,none⟩ (.bool t.z) (by show w.heap.size≠w.heap.size+2;omega));have U3:=hide ((((za UU).far ⟨w.heap.size+2,0,none⟩ (.string t.p) (by show w.heap.size+1≠w.heap.size+2;omega)).far ⟨w.heap.size+2,1,none⟩ (.int .i64 t.i) (by show w.heap.size+1≠w.heap.size+2;omega)).far ⟨w.heap.size+2,2,none⟩ (.bool t.z) (by show w.heap.size+1≠w.heap.size+2;omega))
    have Y3:=hide ((((za YY).put 0 (.string t.p)).put 1 (.int .i64 t.i)).put 2 (.bool t.z));clear VV UU YY bb;go_wp2
    go_roundw
    case rel=>exact ⟨k+1,by omega,by go_num,za B3,V3,U3,hide (by rw [HL];exact za Y3)⟩
    case measure=>simp [intOf];omega
   have hk1:((k:Int)==0)=false:=by simpa using hk0
   have hk2:decide ((k:Int)=0)=false:=by simpa using hk0
   have hk3:¬ (k:Int)=0:=by omega
   by_cases hs:q.p.size<t.p.size
   ·have HL:Pl.zf9 (Pl.uR p) M (k+1)=t:=(za HL2).trans (za L2 rfl (.inr hs));have v1:(q.p.size:Int)<(t.p.size:Int):=by omega
    have v2:decide ((q.p.size:Int)<(t.p.size:Int))=true:=by simpa using hs
    clear L2 L3 HL2;have MK:Hid (∀W',Below wr.heap.size wr W'→(Below wr.heap.size wr W'∧W'.cell? ⟨w.heap.size,1,none⟩=some (.slice (some ⟨g,o,none⟩) M.length mc)∧W'.cell? ⟨w.heap.size+2,0,none⟩=some (.string q.p)∧W'.cell? ⟨w.heap.size+2,1,none⟩=some (.int .i64 q.i)∧W'.cell? ⟨w.heap.size+2,2,none⟩=some (.bool q.z)∧W'.cell? ⟨g,o+k*3,none⟩=some (.string t.p))):=fun W' hb=>⟨hb,((za V2).call hb).cell 1,((za Y2).call hb).cell 0,((za Y2).call hb).cell 1,((za Y2).call hb).cell 2,(hb.cell (p:=⟨_,_,none⟩) (za HGL)).trans c0⟩;go_wp2_with fail
    refine RG MK (bD _) fun hHeld=>?_;refine TB 0 ?_;refine TB 1 ?_;refine TB 2 ?_;refine TB 3 ?_;refine TB 4 ?_;refine TB 5 ?_;refine TB 6 ?_;refine RN 7 fun K hK=>?_;go_simp
    refine (za HC _).mono ?_;rintro e wX ⟨rfl,bX⟩;refine hK.out _ _ ?_ (fun hHeld=>?_)
    ·exact za MK _ (hHeld.1.trans (bX.mono hHeld.1.size))
    clear hK K
    try simp only [Act.put,kBs]
    refine TB 8 ?_;refine TB 9 ?_;refine TB 10 ?_;refine TB 11 ?_;refine TB 12 ?_;refine TB 13 ?_;refine TB 14 ?_;refine TB 15 ?_;refine TB 16 ?_;refine TB 17 ?_;refine TB 18 ?_;refine TB 19 ?_;refine TB 20 ?_;refine TB 21 ?_;refine TB 22 ?_;refine TB 23 ?_;refine TB 24 ?_;refine wpAnyH_done (by kernel_rfl) ?_ _;have bb:=hbel.trans (hHeld.1.mono hbel.size);have VV:=hide ((za V2).call hHeld.1);have YY:=hide ((za Y2).call hHeld.1);have UU:=hide ((za U2).call hHeld.1);have e0:=(hHeld.1.cell (p:=⟨_,_,none⟩) (za HGL)).trans c0;have e1:=(hHeld.1.cell (p:=⟨_,_,none⟩) (za HGL)).trans c1;have e2:=(hHeld.1.cell (p:=⟨_,_,none⟩) (za HGL)).trans c2;clear hHeld MK hbel V2 Y2 U2 a1 y0 y1 y2 c0 c1 c2;have a1:=(za VV).cell 1;obtain ⟨⟨y0,y1,y2⟩,f0,f1,f2⟩:=jf3 (za YY);simp only [kGs] at a1
    have B3:=hide (((bb.setCell (p:=⟨w.heap.size+2,0,none⟩) (Nat.le_add_right _ _) (.string t.p)).setCell (p:=⟨w.heap.size+2,1,none⟩) (Nat.le_add_right _ _) (.int .i64 t.i)).setCell (p:=⟨w.heap.size+2,2,none⟩) (Nat.le_add_right _ _) (.bool t.z));have V3:=hide ((((za VV).far ⟨w.heap.size+2,0,none⟩ (.string t.p) (by show w.heap.size≠w.heap.size+2;omega)).far ⟨w.heap.size+2,1,none⟩ (.int .i64 t.i) (by show w.heap.size≠w.heap.size+2;omega)).far ⟨w.heap.size+2,2,none⟩ (.bool t.z) (by show w.heap.size≠w.heap.size+2;omega));have U3:=hide ((((za UU).far ⟨w.heap.size+2,0,none⟩ (.string t.p) (by show w.heap.size+1≠w.heap.size+2;omega)).far ⟨w.heap.size+2,1,none⟩ (.int .i64 t.i) (by show w.heap.size+1≠w.heap.size+2;omega)).far ⟨w.heap.size+2,2,none⟩ (.bool t.z) (by show w.heap.size+1≠w.heap.size+2;omega))
    have Y3:=hide ((((za YY).put 0 (.string t.p)).put 1 (.int .i64 t.i)).put 2 (.bool t.z));clear VV UU YY bb;go_wp2
    go_roundw
    case rel=>exact ⟨k+1,by omega,by go_num,za B3,V3,U3,hide (by rw [HL];exact za Y3)⟩
    case measure=>simp [intOf];omega
   ·have HL:Pl.zf9 (Pl.uR p) M (k+1)=q:=(za HL2).trans (za L3 hk0 hs);have v1:¬ (q.p.size:Int)<(t.p.size:Int):=by omega
    have v2:decide ((q.p.size:Int)<(t.p.size:Int))=false:=by simpa using hs
    clear L2 L3 HL2;have MK:Hid (∀W',Below wr.heap.size wr W'→(Below wr.heap.size wr W'∧W'.cell? ⟨w.heap.size,1,none⟩=some (.slice (some ⟨g,o,none⟩) M.length mc)∧W'.cell? ⟨w.heap.size+2,0,none⟩=some (.string q.p)∧W'.cell? ⟨w.heap.size+2,1,none⟩=some (.int .i64 q.i)∧W'.cell? ⟨w.heap.size+2,2,none⟩=some (.bool q.z)∧W'.cell? ⟨g,o+k*3,none⟩=some (.string t.p))):=fun W' hb=>⟨hb,((za V2).call hb).cell 1,((za Y2).call hb).cell 0,((za Y2).call hb).cell 1,((za Y2).call hb).cell 2,(hb.cell (p:=⟨_,_,none⟩) (za HGL)).trans c0⟩;go_wp2_with fail
    refine RG MK (bD _) fun hHeld=>?_;refine TB 0 ?_;refine TB 1 ?_;refine TB 2 ?_;refine TB 3 ?_;refine TB 4 ?_;refine TB 5 ?_;refine TB 6 ?_;refine RN 7 fun K hK=>?_;go_simp
    refine (za HC _).mono ?_;rintro e wX ⟨rfl,bX⟩;refine hK.out _ _ ?_ (fun hHeld=>?_)
    ·exact za MK _ (hHeld.1.trans (bX.mono hHeld.1.size))
    clear hK K
    try simp only [Act.put,kBs]
    refine TB 8 ?_;refine TB 9 ?_;refine TB 10 ?_;refine TB 11 ?_;refine TB 12 ?_;refine TB 13 ?_;refine TB 14 ?_;refine TB 15 ?_;refine TB 16 ?_;refine TB 17 ?_;refine TB 18 ?_;refine TB 19 ?_;refine TB 20 ?_;refine TB 21 ?_;refine TB 22 ?_;refine TB 23 ?_;refine TB 24 ?_;refine wpAnyH_done (by kernel_rfl) ?_ _;have bb:=hbel.trans (hHeld.1.mono hbel.size);have VV:=hide ((za V2).call hHeld.1);have YY:=hide ((za Y2).call hHeld.1);have UU:=hide ((za U2).call hHeld.1);have e0:=(hHeld.1.cell (p:=⟨_,_,none⟩) (za HGL)).trans c0;have e1:=(hHeld.1.cell (p:=⟨_,_,none⟩) (za HGL)).trans c1;have e2:=(hHeld.1.cell (p:=⟨_,_,none⟩) (za HGL)).trans c2;clear hHeld MK hbel V2 Y2 U2 a1 y0 y1 y2 c0 c1 c2;go_wp2
    go_roundw
    case rel=>exact ⟨k+1,by omega,by go_num,bb,VV,UU,hide (by rw [HL];exact za YY)⟩
    case measure=>simp [intOf];omega
  ·have u1:¬ (k:Int)<(M.length:Int):=by omega
   obtain rfl:k=M.length:=by omega
   rw [za HLM] at Y2;have a0:=(za Y2).cell 0;have a1':=(za Y2).cell 1;have a2:=(za Y2).cell 2;simp only [kGs] at a0 a1' a2;have MK:Hid (∀W',Below w.heap.size w W'→Mem.Blk W' (w.heap.size+2) #[.string mp, .int .i64 mi, .bool mz] 56→(Below w.heap.size w W'∧W'.cell? ⟨w.heap.size+2,0,none⟩=some (.string mp)∧W'.cell? ⟨w.heap.size+2,1,none⟩=some (.int .i64 mi)∧W'.cell? ⟨w.heap.size+2,2,none⟩=some (.bool mz))):=fun W' b y=>⟨b,y.cell 0,y.cell 1,y.cell 2⟩;have BD:Below wr.heap.size wr wr.drew:=⟨rfl,rfl,rfl,Nat.le_refl _,fun _ _=>rfl⟩;have U:=(za U2).call BD;have Y:=(za Y2).call BD;have bel:=hbel.trans (BD.mono hbel.size);clear U2 Y2 V2 BD hbel HUN HV HLM HP;go_wp2_with fail
   refine wp_region_held_drew (S:=fun W'=>Below w.heap.size w W'∧W'.cell? ⟨w.heap.size+2,0,none⟩=some (.string mp)∧W'.cell? ⟨w.heap.size+2,1,none⟩=some (.int .i64 mi)∧W'.cell? ⟨w.heap.size+2,2,none⟩=some (.bool mz)) (by kernel_rfl) ?_ (fun hHeld=>?_)
   ·exact za MK _ bel Y
   generalize wr.drew=D0 at hHeld U Y bel ⊢;refine TB 0 ?_;refine TB 1 ?_;refine TB 2 ?_;refine TB 3 ?_;refine RN 4 fun K hK=>?_;go_simp
   refine (za HRS _).mono ?_;rintro e wX ⟨rfl,bX⟩;replace U:=U.call bX;replace Y:=Y.call bX;replace bel:=bel.trans (bX.mono bel.size);clear bX;refine hK.out _ _ ?_ (fun hHeld=>?_)
   ·exact za MK _ bel Y
   clear hK K
   try simp only [Act.put,kBs]
   refine RN 5 fun K hK=>?_;obtain ⟨⟨d0,d1,d2⟩,f0,f1,f2⟩:=jf3 U;go_simp
   replace U:=((U.put 0 (.string mp)).put 1 (.int .i64 mi)).put 2 (.bool mz);replace Y:=((Y.far ⟨w.heap.size+1,0,none⟩ (.string mp) (by show w.heap.size+2≠w.heap.size+1;omega)).far ⟨w.heap.size+1,1,none⟩ (.int .i64 mi) (by show w.heap.size+2≠w.heap.size+1;omega)).far ⟨w.heap.size+1,2,none⟩ (.bool mz) (by show w.heap.size+2≠w.heap.size+1;omega);replace bel:=((bel.setCell (p:=⟨w.heap.size+1,0,none⟩) (Nat.le_succ _) (.string mp)).setCell (p:=⟨w.heap.size+1,1,none⟩) (Nat.le_succ _) (.int .i64 mi)).setCell (p:=⟨w.heap.size+1,2,none⟩) (Nat.le_succ _) (.bool mz);clear d0 d1 d2 f0 f1 f2;refine hK.out _ _ ?_ (fun hHeld=>?_)
   ·exact za MK _ bel Y
   clear hK K
   try simp only [Act.put,kBs]
   refine TB 6 ?_;refine wpAnyH_done (by kernel_rfl) ?_ _;have d0:=U.cell 0;have d1:=U.cell 1;have d2:=U.cell 2;simp only [kB3,kB4,kB5,kGs] at d0 d1 d2;go_wp2
   refine bodyPost_ret (v:= .tuple #[.agg #[.string mp, .int .i64 mi, .bool mz], .string RT]) (by simp [results,Tryz.results25,go_sem,d0,d1,d2]) rfl ⟨rfl,bel⟩
end WSp
end
section
set_option linter.unusedSimpArgs false
open Go.RowKit
namespace WSp
set_option maxRecDepth 100000 in
set_option maxHeartbeats 800000 in
theorem inst_any (s:Pl.Sp) (d:Int) (w:World) (hl:s.N.length≤1048576) (hv:Mem.zg8 w s.ia s.N):
  Calls Tryz.prog 63 #[.agg s.cs, .int .i64 d] w fun e w'=>e= .returned (.int .i64 (Pl.zd4 (s.N.map (·.d)) d))∧Below w.heap.size w w':=by
 obtain ⟨ia,ic,N,ma,mc,M,ha,hc,H,next⟩:=s;simp only at *;unfold Pl.Sp.cs;have b0:=(Below.refl w.heap.size w).alloc (o:= .cells #[.slice ia N.length ic, .slice ma M.length mc, .slice ha H.length hc, .int .i64 next] 32) (Nat.le_refl _);have V0:=hide (Mem.Blk.new w #[.slice ia N.length ic, .slice ma M.length mc, .slice ha H.length hc, .int .i64 next] 32);have HI:=hide hv;have HAT:=hide (fun k h hn=>Pl.instI_at (l:=N.map (·.d)) (d:=d) (k:=k) h hn);have HNO:=hide (Pl.instI_no (l:=N.map (·.d)) (d:=d));generalize Pl.zd4 (N.map (·.d)) d=R at HAT HNO ⊢;clear hv;go_enter Tryz.func63,Tryz.ntmps63
 go_wp2
 go_loopw [5] (fun i wr=>∃k:Nat,k≤N.length∧i= .int .i64 (k:Int)∧Below w.heap.size w wr∧Hid (Mem.Blk wr w.heap.size #[.slice ia N.length ic, .slice ma M.length mc, .slice ha H.length hc, .int .i64 next] 32)∧Hid (∀j,j<k→(N.map (·.d))[j]?≠some d)) (fun i _=>N.length - (intOf i).toNat)
 case atStart=>exact ⟨0,Nat.zero_le _,rfl,b0,V0,fun j h=>absurd h (by omega)⟩
 case round=>
  obtain ⟨k,hk,rfl,hbel,V,HA⟩:=hrel;clear V0 b0;have a0:=(za V).cell 0;simp only [kGs] at a0;by_cases hlt:k<N.length
  ·obtain ⟨t,ht⟩:∃n,N[k]? =some n:=⟨_,List.getElem?_eq_getElem hlt⟩;obtain ⟨⟨g,o,rfl,hg,q0, -⟩, -⟩:=(za HI) k t ht;have c0:=(hbel.cell (p:=⟨g,_,none⟩) hg).trans q0;have hm:(N.map (·.d))[k]? =some t.d:=by rw [List.getElem?_map,ht];rfl
   have u1:(k:Int)<(N.length:Int):=by omega
   have u3:(0:Int)≤(k:Int):=by omega
   clear q0 ht;by_cases hd:t.d=d
   ·have hd1:(t.d==d)=true:=by simpa using hd
    have HR:Hid (R=(k:Int)):=hide (za HAT k (by rw [hm,hd]) (za HA));clear hm hd HAT HNO HA;go_wp2
    go_ret
    exact ⟨by rw [za HR];rfl,hbel⟩
   ·have hd1:(t.d==d)=false:=by simpa using hd
    have HA2:Hid (∀j,j<k+1→(N.map (·.d))[j]?≠some d):=fun j hj=>by
     rcases Nat.lt_succ_iff_lt_or_eq.1 hj with h|rfl
     ·exact za HA j h
     ·rw [hm];exact fun e=>hd (Option.some.inj e)
    clear hm;go_wp2
    go_roundw
    case rel=>exact ⟨k+1,by omega,by go_num,hbel,V,HA2⟩
    case measure=>simp [intOf];omega
  ·have u1:¬ (k:Int)<(N.length:Int):=by omega
   have HR:Hid (R= -1):=hide (za HNO (fun j=>by
    by_cases h:j<k
    ·exact za HA j h
    ·rw [List.getElem?_eq_none (by rw [List.length_map];omega)];exact fun e=>by cases e))
   clear HAT HNO HA;go_wp2
   go_ret
   exact ⟨by rw [za HR];rfl,hbel⟩
set_option maxRecDepth 100000 in
set_option maxHeartbeats 2000000 in
theorem zg6 (s:Pl.Sp) (d:Int) (w:World) (hml:s.M.length≤1048576) (hhl:s.H.length≤1048576) (hm:Mem.zc4 w s.ma s.M) (hh:Mem.ze w s.ha s.H):
  Calls Tryz.prog 130 #[.agg s.cs, .int .i64 d] w fun e w'=>e= .returned (.int .i64 (Pl.held s.M s.H d))∧Below w.heap.size w w':=by
 obtain ⟨ia,ic,N,ma,mc,M,ha,hc,H,next⟩:=s;simp only at *;unfold Pl.Sp.cs Pl.held;have b0:=(Below.refl w.heap.size w).alloc (o:= .cells #[.slice ia N.length ic, .slice ma M.length mc, .slice ha H.length hc, .int .i64 next] 32) (Nat.le_refl _);have V0:=hide (Mem.Blk.new w #[.slice ia N.length ic, .slice ma M.length mc, .slice ha H.length hc, .int .i64 next] 32);have HM:=hide hm;have HH:=hide hh;clear hm hh;go_enter Tryz.func130,Tryz.ntmps130
 go_wp2
 go_loopw [5,6] (fun n i wr=>∃k:Nat,k≤M.length∧i= .int .i64 (k:Int)∧n= .int .i64 (0+(Pl.cntM (M.take k) d:Int))∧Below w.heap.size w wr∧Hid (Mem.Blk wr w.heap.size #[.slice ia N.length ic, .slice ma M.length mc, .slice ha H.length hc, .int .i64 next] 32)) (fun _ i _=>M.length - (intOf i).toNat)
 case atStart=>exact ⟨0,Nat.zero_le _,rfl,by simp [Pl.cntM],b0,V0⟩
 case round=>
  obtain ⟨k,hk,rfl,rfl,hbel,V⟩:=hrel;clear V0 b0;have a1:=(za V).cell 1;simp only [kGs] at a1;have hle:=Pl.cntM_le (M.take k) d;have hle2:(M.take k).length≤M.length:=by rw [List.length_take];omega
  by_cases hlt:k<M.length
  ·obtain ⟨t,ht⟩:∃n,M[k]? =some n:=⟨_,List.getElem?_eq_getElem hlt⟩;obtain ⟨g,o,rfl,hg,q0,q1,q2⟩:=(za HM) k t ht;have c1:=(hbel.cell (p:=⟨g,_,none⟩) hg).trans q1;have HS:=hide (Pl.cntM_step ht d);have u1:(k:Int)<(M.length:Int):=by omega
   have u3:(0:Int)≤(k:Int):=by omega
   clear q0 q1 q2 ht;generalize hC:Pl.cntM (M.take k) d=C at HS hle ⊢;by_cases hd:t.i=d
   ·have hd1:(t.i==d)=true:=by simpa using hd
    have HS2:Hid (Pl.cntM (M.take (k+1)) d=C+1):=hide (by rw [za HS,if_pos hd]);clear hC HS hd;go_wp2
    go_roundw
    case rel=>exact ⟨k+1,by omega,by go_num,by rw [za HS2];go_num,hbel,V⟩
    case measure=>simp [intOf];omega
   ·have hd1:(t.i==d)=false:=by simpa using hd
    have HS2:Hid (Pl.cntM (M.take (k+1)) d=C):=hide (by rw [za HS,if_neg hd];rfl);clear hC HS;go_wp2
    go_roundw
    case rel=>exact ⟨k+1,by omega,by go_num,by rw [za HS2],hbel,V⟩
    case measure=>simp [intOf];omega
  ·have u1:¬ (k:Int)<(M.length:Int):=by omega
   have hke:k=M.length:=by omega
   subst hke;rw [List.take_length,Int.zero_add];clear hle hle2 hlt hk;have hML:=Pl.cntM_le M d;go_wp2
   go_loopw [5,7] (fun n i wr=>∃k:Nat,k≤H.length∧i= .int .i64 (k:Int)∧n= .int .i64 ((Pl.cntM M d:Int)+(Pl.cntH (H.take k) d:Int))∧Below w.heap.size w wr∧Hid (Mem.Blk wr w.heap.size #[.slice ia N.length ic, .slice ma M.length mc, .slice ha H.length hc, .int .i64 next] 32)) (fun _ i _=>H.length - (intOf i).toNat)
   case atStart=>exact ⟨0,Nat.zero_le _,rfl,by simp [Pl.cntH],hbel,V⟩
   case round=>
    obtain ⟨k,hk,rfl,rfl,hbel,V⟩:=hrel;have a1:=(za V).cell 2;simp only [kGs] at a1;have hle:=Pl.cntH_le (H.take k) d;have hle2:(H.take k).length≤H.length:=by rw [List.length_take];omega
    by_cases hlt:k<H.length
    ·obtain ⟨t,ht⟩:∃n,H[k]? =some n:=⟨_,List.getElem?_eq_getElem hlt⟩;obtain ⟨g,o,rfl,hg,q0,q1,q2⟩:=(za HH) k t ht;have c1:=(hbel.cell (p:=⟨g,_,none⟩) hg).trans q1;have HS:=hide (Pl.cntH_step ht d);have u1:(k:Int)<(H.length:Int):=by omega
     have u3:(0:Int)≤(k:Int):=by omega
     clear q0 q1 q2 ht;generalize hC:Pl.cntH (H.take k) d=C at HS hle ⊢;by_cases hd:t.i=d
     ·have hd1:(t.i==d)=true:=by simpa using hd
      have HS2:Hid (Pl.cntH (H.take (k+1)) d=C+1):=hide (by rw [za HS,if_pos hd]);clear hC HS hd;go_wp2
      go_roundw
      case rel=>exact ⟨k+1,by omega,by go_num,by rw [za HS2];go_num,hbel,V⟩
      case measure=>simp [intOf];omega
     ·have hd1:(t.i==d)=false:=by simpa using hd
      have HS2:Hid (Pl.cntH (H.take (k+1)) d=C):=hide (by rw [za HS,if_neg hd];rfl);clear hC HS;go_wp2
      go_roundw
      case rel=>exact ⟨k+1,by omega,by go_num,by rw [za HS2],hbel,V⟩
      case measure=>simp [intOf];omega
    ·have u1:¬ (k:Int)<(H.length:Int):=by omega
     have hke:k=H.length:=by omega
     subst hke;rw [List.take_length];go_wp2
     go_ret
     exact ⟨rfl,hbel⟩
end WSp
end
end Go.Proofs.YtkighhofjmginaaGreatDoor
