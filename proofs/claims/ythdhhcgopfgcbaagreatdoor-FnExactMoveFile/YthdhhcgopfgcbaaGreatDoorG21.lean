/- Several texts of one claim in one file: WPutI, WCodeA, WNeed, WWriteP. -/
import Derived.Test.YthdhhcgopfgcbaaGreatDoorG17
import Derived.Test.YthdhhcgopfgcbaaGreatDoorG16
import Derived.Test.YthdhhcgopfgcbaaGreatDoorG19
import Derived.Test.YthdhhcgopfgcbaaGreatDoorPlainOver
namespace Go.Proofs.YthdhhcgopfgcbaaGreatDoor
section
open Go.RowKit Go.Maps
namespace WPutI
structure PutIs (L:List Pl.Nd) (n:Pl.Nd) (x:Nat→Addr) (w w':World) (B:Nat) (e:Ending):Prop where
 out:(∃i,i<6∧e= .returned (.iface 242 (.pointer (some (x i))))∧WIs.codeOf i=(if Pl.za7 n=true then Pl.addC L n else 1)∧Below w.heap.size w w')∨
  (e= .returned .nilIface∧Pl.za7 n=true∧Pl.addC L n=0∧(∃D',w'.ownsMap Tryz.prog 9 MapN.elem B 41 D'∧MapN.Reads D' (L.filter (fun m=>!decide (m.path=n.path))++[n]))∧w.grownBy w' (some B))
set_option linter.unusedSimpArgs false in
set_option maxRecDepth 100000 in
set_option maxHeartbeats 2000000 in
theorem put_any (B:Nat) (L:List Pl.Nd) (n:Pl.Nd) (w:World) (hown:w.ownsMap Tryz.prog 9 MapN.elem B 40 (MapN.mapOf L)) (hC:L.Pairwise (fun a b=>a.path≠b.path)) (hr:L.Pairwise (fun a b=>Pl.ltP a.path b.path=true))
  (hok:∀n∈L,Pl.za1 n.path=true∧n.data.size≤1048576) (hl:L.length≤40) (hn:n.path.size≤1048576∧n.data.size≤1048576) (x:Nat→Addr) (hE:WIs.Six w x):
  Calls Tryz.prog 113 #[.map (some B),n.val] w fun e w'=>PutIs L n x w w' B e:=by
 have HNR:=hide (fun W=>WNode.zk6 n W hn.1 hn.2);have HPF:=hide (fun W (b:Below w.heap.size w W)=>zc2.fault_any B 40 L n.path W _ _ _ _ _ _ (hE.call b).errs (zc2.zd9 hown b) hC hn.1);have HUN:=hide (fun W (b:Below w.heap.size w W)=>WUnderN.any B 40 L L (MapN.mapOf L) n.path W (zc2.zd9 hown b) (by omega) (MapN.zj6 hC) hC (List.Perm.refl _) hr hok (by omega) hn.1);have HPB:Hid (Pl.za7 n=true→Pl.za1 n.path=true):=fun h=>(Pl.zb1 h).1;have HSZ:=hide (MapN.zv8 hC);have HRD:=hide (MapN.zj6 hC);have HAP:=hide hC;have E6:Hid ((Pl.parent n.path).size≠0∧L.find? (fun m=>decide (m.path=Pl.parent n.path))=none→Pl.addC L n=6):=fun h=>by rw [Pl.addC,if_pos h]
 have E12:Hid (¬ ((Pl.parent n.path).size≠0∧L.find? (fun m=>decide (m.path=Pl.parent n.path))=none)→Pl.dirS L (Pl.parent n.path)=false→Pl.addC L n=12):=fun h h2=>by rw [Pl.addC,if_neg h,if_pos h2]
 have E11:Hid (¬ ((Pl.parent n.path).size≠0∧L.find? (fun m=>decide (m.path=Pl.parent n.path))=none)→Pl.dirS L (Pl.parent n.path)=true→n.kind≠1∧Pl.ze4 L n.path=true→Pl.addC L n=11):=fun h h2 h3=>by rw [Pl.addC,if_neg h,if_neg (by rw [h2];simp),if_pos h3]
 have E9:Hid (¬ ((Pl.parent n.path).size≠0∧L.find? (fun m=>decide (m.path=Pl.parent n.path))=none)→Pl.dirS L (Pl.parent n.path)=true→¬ (n.kind≠1∧Pl.ze4 L n.path=true)→(L.find? (fun m=>decide (m.path=n.path))=none∧40≤L.length)→Pl.addC L n=9):=fun h h2 h3 h4=>by rw [Pl.addC,if_neg h,if_neg (by rw [h2];simp),if_neg h3,if_pos h4]
 have E0:Hid (¬ ((Pl.parent n.path).size≠0∧L.find? (fun m=>decide (m.path=Pl.parent n.path))=none)→Pl.dirS L (Pl.parent n.path)=true→¬ (n.kind≠1∧Pl.ze4 L n.path=true)→¬ (L.find? (fun m=>decide (m.path=n.path))=none∧40≤L.length)→Pl.addC L n=0):=fun h h2 h3 h4=>by rw [Pl.addC,if_neg h,if_neg (by rw [h2];simp),if_neg h3,if_neg h4]
 have HPV:Hid (Pl.za7 n=true→(Pl.parV (.iface 242 (.pointer (some (x 2)))) (.iface 242 (.pointer (some (x 3)))) L n.path= .iface 242 (.pointer (some (x 2)))∧((Pl.parent n.path).size≠0∧L.find? (fun m=>decide (m.path=Pl.parent n.path))=none))∨
   (Pl.parV (.iface 242 (.pointer (some (x 2)))) (.iface 242 (.pointer (some (x 3)))) L n.path= .iface 242 (.pointer (some (x 3)))∧¬ ((Pl.parent n.path).size≠0∧L.find? (fun m=>decide (m.path=Pl.parent n.path))=none)∧Pl.dirS L (Pl.parent n.path)=false)∨
   (Pl.parV (.iface 242 (.pointer (some (x 2)))) (.iface 242 (.pointer (some (x 3)))) L n.path= .nilIface∧¬ ((Pl.parent n.path).size≠0∧L.find? (fun m=>decide (m.path=Pl.parent n.path))=none)∧Pl.dirS L (Pl.parent n.path)=true)):=fun h=>by
  rw [Pl.zr3 (Pl.zb1 h).1];unfold Pl.parV Pl.dirS;by_cases h0:(Pl.zb4 n.path).size=0
  ·right;right;simp [h0]
  ·cases hf:L.find? (fun m=>decide (m.path=Pl.zb4 n.path)) with
   |none=>left;simp [h0]
   |some m=>
    right
    by_cases hk:m.kind=1
    ·right;simp [h0,hk]
    ·left;simp [h0,hk]
 have HUV:Hid (Pl.za7 n=true→((Pl.zf8 L n.path).length=0→Pl.ze4 L n.path=false)∧((Pl.zf8 L n.path).length≠0→Pl.ze4 L n.path=true)):=fun h=>by
  have hp:=(Pl.zb1 h).1;have h2:=Pl.yn4 (fun n hn=>(hok n hn).1) hp;refine ⟨fun h3=>by rw [←h2];exact Pl.zz3.1 h3,fun h3=>?_⟩;cases h4:Pl.ze4 L n.path
  ·rw [←h2] at h4;exact absurd (Pl.zz3.2 h4) h3
  ·rfl
 have HE:=hide hE;have HM:=hide hown;clear hE hown hC hr hok;obtain ⟨np,nk,nd,nt,nm⟩:=n;simp only [Pl.Nd.val] at HNR HPF HUN HPB hn E6 E12 E11 E9 E0 HPV HUV ⊢;have b0:Below w.heap.size w (w.alloc (.cells #[.string np, .int .i64 nk, .string nd, .int .i64 nt, .int .i64 nm] 47)):=bE0;have V0:=Mem.Blk.new w #[.string np, .int .i64 nk, .string nd, .int .i64 nt, .int .i64 nm] 47;go_enter Tryz.func113,Tryz.ntmps113
 go_wp2_with fail
 refine (za HNR _).mono ?_;rintro e w1 ⟨rfl,b1⟩;have bw1:=b0.trans (b1.mono b0.size);have V1:=V0.call b1;clear b0 b1 V0 HNR;cases hnb:Pl.za7 ⟨np,nk,nd,nt,nm⟩
 ·have k1:=((za HE).call bw1).c1;clear HPF HUN HPB E6 E12 E11 E9 E0 HPV HUV V1;go_wp2
  go_ret
  exact ⟨.inl ⟨1,by omega,rfl,by rw [if_neg (by rw [hnb];simp)];rfl,bw1⟩⟩
 have hnp:=za HPB hnb;obtain ⟨p0,p1,p2,p3,p4⟩:=jc5 V1;have hpf:=hide (za HPF w1 bw1);clear HPF;obtain ⟨E2v,hE2v⟩:∃v,Pl.parV (.iface 242 (.pointer (some (x 2)))) (.iface 242 (.pointer (some (x 3)))) L np=v:=⟨_,rfl⟩;rw [hE2v] at hpf;have HPV2:=za HPV hnb;rw [hE2v] at HPV2
 rcases HPV2 with ⟨rfl,hq⟩|⟨rfl,hq,hq2⟩|⟨rfl,hq,hq2⟩
 ·have FIN:=hide (show (6:Int)=Pl.addC L ⟨np,nk,nd,nt,nm⟩ from (za E6 hq).symm);clear hE2v HUN E6 E12 E11 E9 E0 HPV HUV V1 HPB hq;go_wp2_with fail
  refine (za hpf).mono ?_;rintro e w2 ⟨rfl,b2⟩;have bw2:=bw1.trans (b2.mono bw1.size);clear hpf b2 p0 p1 p2 p3 p4;go_wp2
  go_ret
  exact ⟨.inl ⟨2,by omega,rfl,by rw [if_pos hnb];exact za FIN,bw2⟩⟩
 ·have FIN:=hide (show (12:Int)=Pl.addC L ⟨np,nk,nd,nt,nm⟩ from (za E12 hq hq2).symm);clear hE2v HUN E6 E12 E11 E9 E0 HPV HUV V1 HPB hq hq2;go_wp2_with fail
  refine (za hpf).mono ?_;rintro e w2 ⟨rfl,b2⟩;have bw2:=bw1.trans (b2.mono bw1.size);clear hpf b2 p0 p1 p2 p3 p4;go_wp2
  go_ret
  exact ⟨.inl ⟨3,by omega,rfl,by rw [if_pos hnb];exact za FIN,bw2⟩⟩
 ·have Q1:=hide hq;have Q0:=hide hq2;clear hE2v hq hq2 HPV;go_wp2_with fail
  refine (za hpf).mono ?_;rintro e w2 ⟨rfl,b2⟩;have bw2:=bw1.trans (b2.mono bw1.size);have V2:=V1.call b2;clear hpf b2 p0 p1 p2 p3 p4 V1 bw1;obtain ⟨p0,p1,p2,p3,p4⟩:=jc5 V2;by_cases hk1:nk=1
  ·subst hk1;have Q2:Hid (¬ ((1:Int)≠1∧Pl.ze4 L np=true)):=fun h=>h.1 rfl;clear HUN HUV HPB p0 p1 p2 p3 p4;have BW:=bw2;clear bw2;have V3:=V2;clear V2;have hkey:=MapN.zj3 (p:=np) (by unfold maxLen;omega);have MW:=hide (zc2.zd9 (za HM) BW);have EW:=hide ((za HE).call BW);have k5:∀o,(w2.alloc o).cell? ⟨5,0,none⟩=some (.iface 242 (.pointer (some (x 5)))):=fun o=>(World.cell?_alloc_some _ _ _ (by rw [(za EW).c5];rfl)).trans (za EW).c5;have hln:∀o ty,(Builtin.len_ #[78] ty #[.map (some B)]).run Tryz.prog (w2.alloc o)= .ok (.int .i64 (L.length:Int)) (w2.alloc o):=fun o ty=>by have h:=((za MW).alloc o).len Tryz.underlying78 ty;rw [za HSZ] at h;exact h
   clear HE;have pa0:∀o,(w2.alloc o).cell? ⟨w.heap.size,0,none⟩=some (.string np):=fun o=>(V3.alloc o).cell 0;have pa1:∀o,(w2.alloc o).cell? ⟨w.heap.size,1,none⟩=some (.int .i64 1):=fun o=>(V3.alloc o).cell 1;have pa2:∀o,(w2.alloc o).cell? ⟨w.heap.size,2,none⟩=some (.string nd):=fun o=>(V3.alloc o).cell 2;have pa3:∀o,(w2.alloc o).cell? ⟨w.heap.size,3,none⟩=some (.int .i64 nt):=fun o=>(V3.alloc o).cell 3;have pa4:∀o,(w2.alloc o).cell? ⟨w.heap.size,4,none⟩=some (.int .i64 nm):=fun o=>(V3.alloc o).cell 4;obtain ⟨p0,p1,p2,p3,p4⟩:=jc5 V3;cases hf:L.find? (fun m=>decide (m.path=np)) with
   |none=>
    have hmiss:∀m∈L,m.path≠np:=fun m hm=>by simpa using List.find?_eq_none.1 hf m hm
    have ha:=hide (MapN.zr9 hmiss);have ha2:=hide (show (MapN.mapOf L).atKey (MapN.key np) (MapN.dat ⟨⟨#[]⟩,0,⟨#[]⟩,0,0⟩)=MapN.dat ⟨⟨#[]⟩,0,⟨#[]⟩,0,0⟩ from (MapN.zv2 np L (.map []) hmiss).2 _);by_cases h40:L.length=40
    ·have t40:((L.length:Int)==40)=true:=by simp;omega
     have FIN:=hide (show (9:Int)=Pl.addC L ⟨np,1,nd,nt,nm⟩ from (za E9 (za Q1) (za Q0) (za Q2) ⟨hf,by omega⟩).symm);clear hmiss hf EW;go_wp2_with (at_lookup;refine MapN.look_ok _ rfl _ _ 78 rfl 9 47 MapN.law Tryz.underlying78 (MapN.za6 _) B 40 (MapN.mapOf L) rfl (za MW) _ _ rfl hkey ⟨⟨#[]⟩,0,⟨#[]⟩,0,0⟩ (za ha2) false (za ha) ?_)
     go_ret
     exact ⟨.inl ⟨5,by omega,rfl,by rw [if_pos hnb];exact za FIN,BW.alloc BW.size _⟩⟩
    ·have t40:((L.length:Int)==40)=false:=by simp;omega
     have FIN:=hide (show Pl.addC L ⟨np,1,nd,nt,nm⟩=0 from za E0 (za Q1) (za Q0) (za Q2) (fun h=>by omega));have RP:=hide (MapN.zu4 (za HRD) (MapN.zq8 L) ⟨np,1,nd,nt,nm⟩);clear hmiss hf EW;go_wp2_with (first |(at_lookup;refine MapN.look_ok _ rfl _ _ 78 rfl 9 47 MapN.law Tryz.underlying78 (MapN.za6 _) B 40 (MapN.mapOf L) rfl (za MW) _ _ rfl hkey ⟨⟨#[]⟩,0,⟨#[]⟩,0,0⟩ (za ha2) false (za ha) ?_)|(at_mapUpdate;refine wpList_mapUpdate_own _ rfl _ _ _ 78 rfl 9 47 MapN.law Tryz.underlying78 _ B 40 _ rfl ((za MW).alloc _) (by unfold maxLen;omega) _ _ _ rfl rfl hkey _ [] (MapN.zk3 ⟨np,1,nd,nt,nm⟩) ?_))
     intro wZ hownZ hgrowZ;have FZ:=hide (show (∃D',wZ.ownsMap Tryz.prog 9 MapN.elem B 41 D'∧MapN.Reads D' (L.filter (fun m=>!decide (m.path=np))++[⟨np,1,nd,nt,nm⟩]))∧w.grownBy wZ (some B) from ⟨⟨_,hownZ,za RP⟩,Mem.zl2 (Mem.zc7 (BW.alloc BW.size _) _) hgrowZ⟩);clear hownZ hgrowZ RP MW ha ha2;go_wp2
     go_ret
     exact ⟨.inr ⟨rfl,hnb,za FIN,za FZ⟩⟩
   |some m=>
    have h1:=List.mem_of_find?_eq_some hf;have h2:m.path=np:=by simpa using List.find?_some hf
    have hy:=MapN.zp0 (za HAP) h1;rw [h2] at hy;have ha:=hide hy.1;have ha2:=hide (hy.2 (MapN.dat ⟨⟨#[]⟩,0,⟨#[]⟩,0,0⟩));have FIN:=hide (show Pl.addC L ⟨np,1,nd,nt,nm⟩=0 from za E0 (za Q1) (za Q0) (za Q2) (fun h=>by rw [hf] at h;cases h.1));have RP:=hide (MapN.zu4 (za HRD) (MapN.zq8 L) ⟨np,1,nd,nt,nm⟩);clear h1 h2 hy hf EW;go_wp2_with (first |(at_lookup;refine MapN.look_ok _ rfl _ _ 78 rfl 9 47 MapN.law Tryz.underlying78 (MapN.za6 _) B 40 (MapN.mapOf L) rfl (za MW) _ _ rfl hkey m (za ha2) true (za ha) ?_)|(at_mapUpdate;refine wpList_mapUpdate_own _ rfl _ _ _ 78 rfl 9 47 MapN.law Tryz.underlying78 _ B 40 _ rfl ((za MW).alloc _) (by unfold maxLen;omega) _ _ _ rfl rfl hkey _ [] (MapN.zk3 ⟨np,1,nd,nt,nm⟩) ?_))
    intro wZ hownZ hgrowZ;have FZ:=hide (show (∃D',wZ.ownsMap Tryz.prog 9 MapN.elem B 41 D'∧MapN.Reads D' (L.filter (fun m=>!decide (m.path=np))++[⟨np,1,nd,nt,nm⟩]))∧w.grownBy wZ (some B) from ⟨⟨_,hownZ,za RP⟩,Mem.zl2 (Mem.zc7 (BW.alloc BW.size _) _) hgrowZ⟩);clear hownZ hgrowZ RP MW ha ha2;go_wp2
    go_ret
    exact ⟨.inr ⟨rfl,hnb,za FIN,za FZ⟩⟩
  ·have tk:(nk==1)=false:=by simpa using hk1
   have tk2:(nk !=1)=true:=by simpa using hk1
   have hun:=hide (za HUN w2 bw2);clear HUN;go_wp2_with fail
   refine (za hun).mono ?_;rintro e w3 ⟨a3,rfl, -, -,b3⟩;have BW:=bw2.trans (b3.mono bw2.size);have V3:=V2.call b3;have HUV2:=za HUV hnb;clear hun b3 p0 p1 p2 p3 p4 V2 bw2 HUV;generalize (Pl.zf8 L np).length=PL at HUV2 ⊢;by_cases hpl:PL=0
   ·have Q2:Hid (¬ (nk≠1∧Pl.ze4 L np=true)):=fun h=>by rw [HUV2.1 hpl] at h;cases h.2
    subst hpl;clear HUV2 HPB;have hkey:=MapN.zj3 (p:=np) (by unfold maxLen;omega);have MW:=hide (zc2.zd9 (za HM) BW);have EW:=hide ((za HE).call BW);have k5:∀o,(w3.alloc o).cell? ⟨5,0,none⟩=some (.iface 242 (.pointer (some (x 5)))):=fun o=>(World.cell?_alloc_some _ _ _ (by rw [(za EW).c5];rfl)).trans (za EW).c5;have hln:∀o ty,(Builtin.len_ #[78] ty #[.map (some B)]).run Tryz.prog (w3.alloc o)= .ok (.int .i64 (L.length:Int)) (w3.alloc o):=fun o ty=>by have h:=((za MW).alloc o).len Tryz.underlying78 ty;rw [za HSZ] at h;exact h
    clear HE;have pa0:∀o,(w3.alloc o).cell? ⟨w.heap.size,0,none⟩=some (.string np):=fun o=>(V3.alloc o).cell 0;have pa1:∀o,(w3.alloc o).cell? ⟨w.heap.size,1,none⟩=some (.int .i64 nk):=fun o=>(V3.alloc o).cell 1;have pa2:∀o,(w3.alloc o).cell? ⟨w.heap.size,2,none⟩=some (.string nd):=fun o=>(V3.alloc o).cell 2;have pa3:∀o,(w3.alloc o).cell? ⟨w.heap.size,3,none⟩=some (.int .i64 nt):=fun o=>(V3.alloc o).cell 3;have pa4:∀o,(w3.alloc o).cell? ⟨w.heap.size,4,none⟩=some (.int .i64 nm):=fun o=>(V3.alloc o).cell 4;obtain ⟨p0,p1,p2,p3,p4⟩:=jc5 V3;cases hf:L.find? (fun m=>decide (m.path=np)) with
    |none=>
     have hmiss:∀m∈L,m.path≠np:=fun m hm=>by simpa using List.find?_eq_none.1 hf m hm
     have ha:=hide (MapN.zr9 hmiss);have ha2:=hide (show (MapN.mapOf L).atKey (MapN.key np) (MapN.dat ⟨⟨#[]⟩,0,⟨#[]⟩,0,0⟩)=MapN.dat ⟨⟨#[]⟩,0,⟨#[]⟩,0,0⟩ from (MapN.zv2 np L (.map []) hmiss).2 _);by_cases h40:L.length=40
     ·have t40:((L.length:Int)==40)=true:=by simp;omega
      have FIN:=hide (show (9:Int)=Pl.addC L ⟨np,nk,nd,nt,nm⟩ from (za E9 (za Q1) (za Q0) (za Q2) ⟨hf,by omega⟩).symm);clear hmiss hf EW;go_wp2_with (at_lookup;refine MapN.look_ok _ rfl _ _ 78 rfl 9 47 MapN.law Tryz.underlying78 (MapN.za6 _) B 40 (MapN.mapOf L) rfl (za MW) _ _ rfl hkey ⟨⟨#[]⟩,0,⟨#[]⟩,0,0⟩ (za ha2) false (za ha) ?_)
      go_ret
      exact ⟨.inl ⟨5,by omega,rfl,by rw [if_pos hnb];exact za FIN,BW.alloc BW.size _⟩⟩
     ·have t40:((L.length:Int)==40)=false:=by simp;omega
      have FIN:=hide (show Pl.addC L ⟨np,nk,nd,nt,nm⟩=0 from za E0 (za Q1) (za Q0) (za Q2) (fun h=>by omega));have RP:=hide (MapN.zu4 (za HRD) (MapN.zq8 L) ⟨np,nk,nd,nt,nm⟩);clear hmiss hf EW;go_wp2_with (first |(at_lookup;refine MapN.look_ok _ rfl _ _ 78 rfl 9 47 MapN.law Tryz.underlying78 (MapN.za6 _) B 40 (MapN.mapOf L) rfl (za MW) _ _ rfl hkey ⟨⟨#[]⟩,0,⟨#[]⟩,0,0⟩ (za ha2) false (za ha) ?_)|(at_mapUpdate;refine wpList_mapUpdate_own _ rfl _ _ _ 78 rfl 9 47 MapN.law Tryz.underlying78 _ B 40 _ rfl ((za MW).alloc _) (by unfold maxLen;omega) _ _ _ rfl rfl hkey _ [] (MapN.zk3 ⟨np,nk,nd,nt,nm⟩) ?_))
      intro wZ hownZ hgrowZ;have FZ:=hide (show (∃D',wZ.ownsMap Tryz.prog 9 MapN.elem B 41 D'∧MapN.Reads D' (L.filter (fun m=>!decide (m.path=np))++[⟨np,nk,nd,nt,nm⟩]))∧w.grownBy wZ (some B) from ⟨⟨_,hownZ,za RP⟩,Mem.zl2 (Mem.zc7 (BW.alloc BW.size _) _) hgrowZ⟩);clear hownZ hgrowZ RP MW ha ha2;go_wp2
      go_ret
      exact ⟨.inr ⟨rfl,hnb,za FIN,za FZ⟩⟩
    |some m=>
     have h1:=List.mem_of_find?_eq_some hf;have h2:m.path=np:=by simpa using List.find?_some hf
     have hy:=MapN.zp0 (za HAP) h1;rw [h2] at hy;have ha:=hide hy.1;have ha2:=hide (hy.2 (MapN.dat ⟨⟨#[]⟩,0,⟨#[]⟩,0,0⟩));have FIN:=hide (show Pl.addC L ⟨np,nk,nd,nt,nm⟩=0 from za E0 (za Q1) (za Q0) (za Q2) (fun h=>by rw [hf] at h;cases h.1));have RP:=hide (MapN.zu4 (za HRD) (MapN.zq8 L) ⟨np,nk,nd,nt,nm⟩);clear h1 h2 hy hf EW;go_wp2_with (first |(at_lookup;refine MapN.look_ok _ rfl _ _ 78 rfl 9 47 MapN.law Tryz.underlying78 (MapN.za6 _) B 40 (MapN.mapOf L) rfl (za MW) _ _ rfl hkey m (za ha2) true (za ha) ?_)|(at_mapUpdate;refine wpList_mapUpdate_own _ rfl _ _ _ 78 rfl 9 47 MapN.law Tryz.underlying78 _ B 40 _ rfl ((za MW).alloc _) (by unfold maxLen;omega) _ _ _ rfl rfl hkey _ [] (MapN.zk3 ⟨np,nk,nd,nt,nm⟩) ?_))
     intro wZ hownZ hgrowZ;have FZ:=hide (show (∃D',wZ.ownsMap Tryz.prog 9 MapN.elem B 41 D'∧MapN.Reads D' (L.filter (fun m=>!decide (m.path=np))++[⟨np,nk,nd,nt,nm⟩]))∧w.grownBy wZ (some B) from ⟨⟨_,hownZ,za RP⟩,Mem.zl2 (Mem.zc7 (BW.alloc BW.size _) _) hgrowZ⟩);clear hownZ hgrowZ RP MW ha ha2;go_wp2
     go_ret
     exact ⟨.inr ⟨rfl,hnb,za FIN,za FZ⟩⟩
   ·have tpl:(0:Int)<(PL:Int):=by omega
    have FIN:=hide (show (11:Int)=Pl.addC L ⟨np,nk,nd,nt,nm⟩ from (za E11 (za Q1) (za Q0) ⟨hk1,HUV2.2 hpl⟩).symm);have k4:=((za HE).call BW).c4;clear HUV2 E6 E12 E11 E9 E0 HPB V3 Q0 Q1;go_wp2
    go_ret
    exact ⟨.inl ⟨4,by omega,rfl,by rw [if_pos hnb];exact za FIN,BW⟩⟩
end WPutI
end
section
open Go.RowKit
namespace WCutF
theorem code_any (x:Nat→Addr) (w:World) (h:WIs.Six w x) (i:Nat) (hi:i<6):
  Calls Tryz.prog 44 #[.iface 242 (.pointer (some (x i)))] w fun e w'=>e= .returned (.int .i64 (WIs.codeOf i))∧w'=w:=by
 obtain rfl |rfl |rfl |rfl |rfl |rfl:i=0∨i=1∨i=2∨i=3∨i=4∨i=5:=by omega
 ·exact WIs.code0 x w h
 ·exact WIs.code1 x w h
 ·exact WIs.code2 x w h
 ·exact WIs.code3 x w h
 ·exact WIs.code4 x w h
 ·exact WIs.code5 x w h
theorem code_pos (i:Nat):WIs.codeOf i≠0:=by
 unfold WIs.codeOf
 split <;> decide
set_option maxRecDepth 100000 in
theorem code_nil (w:World):Calls Tryz.prog 44 #[.nilIface] w fun e w'=>e= .returned (.int .i64 0)∧w'=w:=by
 go_enter Tryz.func44,Tryz.ntmps44
 go_wp2
 go_ret
 exact ⟨rfl,rfl⟩
end WCutF
end
section
open Go.RowKit
namespace ze6
set_option maxRecDepth 100000 in
theorem ya4 (w:World):Calls Tryz.prog 43 #[.int .i64 0] w fun e w'=>e= .returned (.tuple #[])∧w'=w:=by
 have hr:=hide zi2;go_enter Tryz.func43,Tryz.ntmps43
 go_wp2_with fail
 refine (za hr 0 _).mono ?_;rintro e w1 ⟨rfl,rfl⟩;go_wp2_with fail
 go_end0
 exact ⟨rfl,rfl⟩
set_option maxRecDepth 100000 in
theorem zu3 (c:Int) (hc:c≠0) (w:World):Calls Tryz.prog 43 #[.int .i64 c] w fun e w'=>e= .panicked (pnc c)∧w'=w:=by
 have hr:=hide zg;have t0:(c !=0)=true:=by simpa using hc
 go_enter Tryz.func43,Tryz.ntmps43
 go_wp2_with fail
 refine (za hr c _).mono ?_;rintro e w1 ⟨rfl,rfl⟩;go_wp2_with fail
 exact ⟨rfl,rfl,rfl⟩
end ze6
end
section
open Go.RowKit Go.Maps
namespace Pl
def wrtC (L:List Nd) (n:Nd):Int:=if (L.find? (fun m=>decide (m.path=n.path))).any (fun m=>decide (m.kind=1))=true then 11 else addC L n
end Pl
namespace ze6
set_option linter.unusedSimpArgs false in
set_option maxRecDepth 100000 in
set_option maxHeartbeats 2000000 in
theorem writeP_any (B:Nat) (L:List Pl.Nd) (n:Pl.Nd) (w:World) (ht:Pl.za5 L=true) (hnb:Pl.za7 n=true) (x:Nat→Addr) (hE:WIs.Six w x) (hown:w.ownsMap Tryz.prog 9 MapN.elem B 40 (MapN.mapOf L)):
  Calls Tryz.prog 83 #[.map (some B),n.val] w fun e w'=>Did w w' e B (Pl.wrtC L n) (Pl.putL L n):=by
 have hC:=Pl.zl1 ht;have hp8:n.path.size≤8000:=by have :=Pl.zd1 (Pl.zb1 hnb).1;omega
 have HPU:=hide (fun W (b:Below w.heap.size w W)=>WPutI.put_any B L n W (zc2.zd9 hown b) hC (Pl.zj4 ht).1 (Pl.zj4 ht).2.1 (Pl.zj4 ht).2.2 ⟨by omega,by have :=(Pl.zd8 hnb).1;omega⟩ x (hE.call b));have HFIN:Hid (∀w':World,(∃D',w'.ownsMap Tryz.prog 9 MapN.elem B 41 D'∧MapN.Reads D' (L.filter (fun m=>!decide (m.path=n.path))++[n]))→∃N D' C,N≤1000∧w'.ownsMap Tryz.prog 9 MapN.elem B N D'∧MapN.Reads D' C∧C.Pairwise (fun a b=>a.path≠b.path)∧(Pl.putL L n).Perm C∧(Pl.putL L n).Pairwise (fun a b=>Pl.ltP a.path b.path=true)∧(∀n∈C,Pl.za1 n.path=true∧n.data.size≤1048576)):=fun w' h=>put_fin ht hnb h;have HCD:=hide (fun W (b:Below w.heap.size w W) i hi=>WCutF.code_any x W (hE.call b) i hi);have HM:=hide hown;have HAP:=hide hC;have HNB:=hide hnb;have EC:Hid (Pl.wrtC L n=if (L.find? (fun m=>decide (m.path=n.path))).any (fun m=>decide (m.kind=1))=true then 11 else Pl.addC L n):=rfl
 generalize Pl.wrtC L n=c at EC ⊢;generalize Pl.putL L n=O at HFIN ⊢;obtain ⟨np,nk,nd,nt,nm⟩:=n;simp only [Pl.Nd.val] at hp8 HPU HFIN EC HNB ⊢;clear hown hC hE hnb;have b0:Below w.heap.size w (w.alloc (.cells #[.string np, .int .i64 nk, .string nd, .int .i64 nt, .int .i64 nm] 47)):=bE0;have V0:=Mem.Blk.new w #[.string np, .int .i64 nk, .string nd, .int .i64 nt, .int .i64 nm] 47;have HM0:=hide (zc2.zd9 (za HM) b0);have hkey:=MapN.zj3 (p:=np) (by unfold maxLen;omega);have HRN:=hide zi2;have HRY:=hide zg;have HNO:=hide ya4;have HNN:=hide zu3;have HNI:=hide WCutF.code_nil;have hg:∀ {W:World},Below w.heap.size w W→w.grownBy W (some B):=fun b=>⟨b.os,b.tape,b.output,b.size,fun j hj _=>b.block j hj⟩
 obtain ⟨m,ha2,hm⟩:∃m:Pl.Nd,Hid ((MapN.mapOf L).atKey (MapN.key np) (MapN.dat ⟨⟨#[]⟩,0,⟨#[]⟩,0,0⟩)=MapN.dat m)∧((m.kind=1∧c=11)∨(m.kind≠1∧c=Pl.addC L ⟨np,nk,nd,nt,nm⟩)):=by
  cases hf:L.find? (fun m=>decide (m.path=np)) with
  |none=>
   have hmiss:∀n∈L,n.path≠np:=fun n hn=>by simpa using List.find?_eq_none.1 hf n hn
   refine ⟨⟨⟨#[]⟩,0,⟨#[]⟩,0,0⟩,Maps.atKey_of_not_has (MapN.zr9 hmiss) _, .inr ⟨by decide,?_⟩⟩;have :=za EC;rw [hf] at this
   simpa using this
  |some m=>
   have hm1:=List.mem_of_find?_eq_some hf;have hm2:m.path=np:=by simpa using List.find?_some hf
   obtain ⟨y1,y2⟩:=MapN.zp0 (za HAP) hm1;rw [hm2] at y2;refine ⟨m,y2 _,?_⟩;have :=za EC;rw [hf] at this;by_cases hk:m.kind=1
   ·exact .inl ⟨hk,by simpa [hk] using this⟩
   ·exact .inr ⟨hk,by simpa [hk] using this⟩
 obtain ⟨mp,mk,md,mt,mm⟩:=m;have hfd:∀ (k:Int) (W:World),(Instr.field 47 (.agg #[.string mp, .int .i64 k, .string md, .int .i64 mt, .int .i64 mm]) 1).run Tryz.prog W= .ok (.int .i64 k) W:=fun _ _=>by kernel_rfl
 rcases hm with ⟨hk,hc⟩|⟨hk,hc⟩
 ·simp only at hk;subst hk;subst hc;clear EC HPU HFIN HCD HRN;go_enter Tryz.func83,Tryz.ntmps83
  go_wp2_with (at_lookup;refine MapN.look_no _ rfl _ _ 78 rfl 9 47 MapN.law Tryz.underlying78 (MapN.za6 _) B 40 (MapN.mapOf L) rfl (za HM0) _ _ rfl hkey ⟨mp,1,md,mt,mm⟩ (za ha2) ?_)
  refine (za HRY 11 _).mono ?_;rintro e w1 ⟨rfl,rfl⟩;go_wp2_with fail
  exact ⟨rfl,⟨.inr ⟨by decide,rfl⟩,hg b0⟩⟩
 ·simp only at hk;have t0:(mk==1)=false:=by simpa using hk
  have EC2:=hide hc;clear EC HRY hk hc;obtain ⟨p0,p1,p2,p3,p4⟩:=jc5 V0;go_enter Tryz.func83,Tryz.ntmps83
  go_wp2_with (at_lookup;refine MapN.look_no _ rfl _ _ 78 rfl 9 47 MapN.law Tryz.underlying78 (MapN.za6 _) B 40 (MapN.mapOf L) rfl (za HM0) _ _ rfl hkey ⟨mp,mk,md,mt,mm⟩ (za ha2) ?_)
  refine (za HRN 11 _).mono ?_;rintro e w1 ⟨rfl,rfl⟩;go_wp2_with fail
  refine (za HPU _ b0).mono ?_;rintro e w2 ⟨h2⟩
  rcases h2 with ⟨i,hi,rfl,hco,b2⟩|⟨rfl, -,hadd,hD,hgr⟩
  ·have bw2:=b0.trans (b2.mono b0.size);have hc:WIs.codeOf i=c:=by rw [if_pos (za HNB)] at hco;rw [hco,za EC2]
   have hcd:=hide (za HCD _ bw2 i hi);rw [hc] at hcd;have hc0:c≠0:=by rw [←hc];exact WCutF.code_pos i
   clear HPU HFIN HCD HNO HNI hco EC2 hc;go_wp2_with fail
   refine (za hcd).mono ?_;rintro e w3 ⟨rfl,rfl⟩;go_wp2_with fail
   refine (za HNN c hc0 _).mono ?_;rintro e w4 ⟨rfl,rfl⟩;go_wp2_with fail
   exact ⟨rfl,⟨.inr ⟨hc0,rfl⟩,hg bw2⟩⟩
  ·have hc:c=0:=by rw [za EC2,hadd]
   subst hc;have hfin:=hide (za HFIN _ hD);have hgr2:=hide (Mem.zl2 (hg b0) hgr);clear HPU HFIN HCD HNN hadd EC2 hD hgr p0 p1 p2 p3 p4 V0 b0;go_wp2_with fail
   refine (za HNI _).mono ?_;rintro e w3 ⟨rfl,rfl⟩;go_wp2_with fail
   refine (za HNO _).mono ?_;rintro e w4 ⟨rfl,rfl⟩;go_wp2_with fail
   go_end0
   exact ⟨.inl ⟨rfl,rfl,za hfin⟩,za hgr2⟩
end ze6
end
end Go.Proofs.YthdhhcgopfgcbaaGreatDoor
