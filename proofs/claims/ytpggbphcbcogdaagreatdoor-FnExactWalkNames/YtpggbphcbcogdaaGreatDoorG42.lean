/- Several texts of one claim in one file: WTakeY, WErrs4. -/
import Derived.Test.YtpggbphcbcogdaaGreatDoorG16
import Derived.Test.YtpggbphcbcogdaaGreatDoorG41
namespace Go.Proofs.YtpggbphcbcogdaaGreatDoor
section
open Go.RowKit
namespace zn9
theorem take_here {Is:List Pl.It} {x:Pl.It} (hx:Is[0]? =some x):Pl.rowO (Is.map Pl.It.r)=Pl.zi2 (x.m,x.t.L)::Pl.rowO ((Is.drop 1).map Pl.It.r):=by
 have h:=Pl.rowO_at (xs:=Is.map Pl.It.r) (i:=0) (x:=x.r) (by rw [List.getElem?_map,hx];rfl);rw [List.drop_zero,Pl.rowO_drop,←List.map_drop] at h;exact h
theorem items_here {Is:List Pl.It} {x:Pl.It} (hx:Is[0]? =some x):Is.map Pl.It.r=(x.m,x.t.L)::(Is.drop 1).map Pl.It.r:=by
 cases Is with
 |nil=>cases hx
 |cons y Is=>
  have e:y=x:=by simpa using hx
  subst e;rfl
theorem item_tree {m:Int} {L:List Pl.Nd} (h:Pl.ze3 m L=true):Pl.zb9 L=true∧(m=0∨L=[]):=by
 unfold Pl.ze3 at h;simp only [Bool.and_eq_true,Bool.or_eq_true,decide_eq_true_eq,List.isEmpty_iff] at h;exact ⟨h.2,h.1.2⟩
def Took (w:World) (r1:TypeId) (x1:Value) (a:Option Addr) (Is:List Pl.It) (TT:Option (Pl.Fo × Pl.Row)) (e:Ending) (w':World):Prop:=
 (∃L kids q v k a' cap',TT=some (.cons kids.shape .nil,Pl.rowO ((Is.drop k).map Pl.It.r))∧e= .returned (.tuple #[.agg #[.map (some q), .int .i64 (kids.len:Int),v], .slice a' (Is.drop k).length cap', .nilIface])∧
  0<k∧k≤Is.length∧(Is.drop k).length≤cap'∧Mem.shifted a a' k Is∧((w.heap.size≤q∧Mem.apart w' q kids v)∧Mem.ownM w' q L)∧((Pl.Fx.cons L kids .nil).okX∧(Pl.Fx.cons L kids .nil).flat++(Is.drop k).map Pl.It.r=Is.map Pl.It.r)∧Mem.layX w' (fun b=>w.heap.size≤b) kids v)∨
 (TT=none∧e= .returned (.tuple #[.agg #[.map none, .int .i64 0, .slice none 0 0], .slice none 0 0, .iface r1 x1]))
set_option linter.unusedSimpArgs false in
set_option maxRecDepth 100000 in
set_option maxHeartbeats 2000000 in
theorem take_any (r1 r2 r3:TypeId) (x1 x2 x3:Value) (n:Nat):
  ∀ (Is:List Pl.It) (a:Option Addr) (cap:Nat) (w:World),Is.length≤n→Is.length≤12→Is.length≤cap→Mem.zb8 w a Is→(∀x∈Is,x.t.L.length≤1048576∧∀n∈x.t.L,n.path.size≤1048576∧n.data.size≤1048576)→zk2.Errs w r1 r2 r3 x1 x2 x3→
  Calls Tryz.prog 36 #[.slice a Is.length cap] w fun e w'=>Took w r1 x1 a Is (Pl.take 1 (Pl.rowO (Is.map Pl.It.r))) e w'∧Below w.heap.size w w':=by
 obtain ⟨i0,hi,hz0,hz1,hz2⟩:=info_parts infoN
 induction n with
 |zero=>
  intro Is a cap w hn h12 hcap hv hok hE;have e:Is=[]:=List.eq_nil_of_length_eq_zero (by omega);subst e;have b0:Below w.heap.size w (w.alloc (.cells #[.map none, .int .i64 0, .slice none 0 0] 62)):=bE0;have k1:=(hE.call b0).c1;have HB0:=hide b0;clear hv hok hE b0;go_enter Tryz.func36,Tryz.ntmps36
  go_wp2
  go_region
  go_wp2
  refine bodyPost_ret (v:= .tuple #[.agg #[.map none, .int .i64 0, .slice none 0 0], .slice none 0 0, .iface r1 x1]) (by simp [results,Tryz.results36,go_sem]) rfl ⟨Or.inr ⟨rfl,rfl⟩,?_⟩;exact Mem.below_drewN (za HB0) 1
 |succ n ih=>
  intro Is a cap w hn h12 hcap hv hok hE;have b0:Below w.heap.size w (w.alloc (.cells #[.map none, .int .i64 0, .slice none 0 0] 62)):=bE0;have A0:=Mem.Blk.new w #[.map none, .int .i64 0, .slice none 0 0] 62;have hs0:(w.alloc (.cells #[.map none, .int .i64 0, .slice none 0 0] 62)).heap.size=w.heap.size+1:=by simp
  by_cases hnil:Is.length=0
  ·have e:Is=[]:=List.eq_nil_of_length_eq_zero hnil;subst e;have k1:=(hE.call b0).c1;have HB0:=hide b0;clear hv hok hE b0 A0 ih;go_enter Tryz.func36,Tryz.ntmps36
   go_wp2
   go_region
   go_wp2
   refine bodyPost_ret (v:= .tuple #[.agg #[.map none, .int .i64 0, .slice none 0 0], .slice none 0 0, .iface r1 x1]) (by simp [results,Tryz.results36,go_sem]) rfl ⟨Or.inr ⟨rfl,rfl⟩,?_⟩;exact Mem.below_drewN (za HB0) 1
  have t0:¬ (Is.length:Int)=0:=by omega
  have t1:(0:Int)<(Is.length:Int):=by omega
  have t2:(1:Int)≤(Is.length:Int):=by omega
  obtain ⟨x,hx⟩:∃x,Is[0]? =some x:=⟨_,List.getElem?_eq_getElem (by omega)⟩;obtain ⟨⟨b,o,rfl,hb,q0,q0'⟩,q1⟩:=hv 0 x hx;have c0:=(b0.cell (p:=⟨b,_,none⟩) hb).trans q0;have c1:=(b0.cell (p:=⟨b,_,none⟩) hb).trans q0';simp only [Pl.Tr.val,Nat.zero_mul,Nat.add_zero] at c0 c1;have hz:=hide (item_any x.m x.t.a x.t.cap x.t.L _ (hok x (List.mem_of_getElem? hx)).1 (Mem.za9 q1 b0) (hok x (List.mem_of_getElem? hx)).2 r1 r2 r3 x1 x2 x3 (hE.call b0));have hrow:=take_here hx;have HIS:Hid (Is.map Pl.It.r=(x.m,x.t.L)::(Is.drop 1).map Pl.It.r):=hide (items_here hx)
  have HI:Hid (∀ (k r:Nat) (a':Option Addr) (cap':Nat) (W:World),0<k→k+r=Is.length→r≤cap'→Mem.shifted (some ⟨b,o,none⟩) a' k Is→Below w.heap.size w W→
    Calls Tryz.prog 36 #[.slice a' r cap'] W fun e w'=>((∃L kids q v k1 r1 a1 cap1,Pl.take 1 (Pl.rowO ((Is.drop k).map Pl.It.r))=some (.cons kids.shape .nil,Pl.rowO ((Is.drop (k+k1)).map Pl.It.r))∧e= .returned (.tuple #[.agg #[.map (some q), .int .i64 (kids.len:Int),v], .slice a1 r1 cap1, .nilIface])∧
     k+k1+r1=Is.length∧r1≤cap1∧Mem.shifted (some ⟨b,o,none⟩) a1 (k+k1) Is∧((W.heap.size≤q∧Mem.apart w' q kids v)∧Mem.ownM w' q L)∧((Pl.Fx.cons L kids .nil).okX∧(Pl.Fx.cons L kids .nil).flat++(Is.drop (k+k1)).map Pl.It.r=(Is.drop k).map Pl.It.r)∧Mem.layX w' (fun b=>W.heap.size≤b) kids v)∨
    (Pl.take 1 (Pl.rowO ((Is.drop k).map Pl.It.r))=none∧e= .returned (.tuple #[.agg #[.map none, .int .i64 0, .slice none 0 0], .slice none 0 0, .iface r1 x1])))∧Below W.heap.size W w'):=hide (fun k r a' cap' W hk hr hc hs bb=>by
   have hrl:(Is.drop k).length=r:=by rw [List.length_drop];omega
   have h:=ih (Is.drop k) a' cap' W (by omega) (by omega) (by omega) (Mem.zd4 (Mem.items_shift hv hs) bb) (fun y hy=>hok y (List.mem_of_mem_drop hy)) (hE.call bb);rw [hrl] at h;refine h.mono fun e w' ⟨h1,h2⟩=>⟨?_,h2⟩
   rcases h1 with ⟨L,kids,q,v,k1,a1,cap1,g1,g2,g3,g4,g5,g6,g8,g9,g7⟩|h1
   ·rw [List.drop_drop] at g1 g2 g5 g9;exact .inl ⟨L,kids,q,v,k1,(Is.drop (k+k1)).length,a1,cap1,g1,g2,by rw [List.length_drop];omega,g5,Mem.shifted_trans hs g6,g8,g9,g7⟩
   ·exact .inr h1)
  rw [hrow];generalize hTT:Pl.take 1 (Pl.zi2 (x.m,x.t.L)::Pl.rowO ((Is.drop 1).map Pl.It.r))=TT;have HTT:=hide hTT;clear hTT;clear ih hv hok hE q0 q0' q1 hx hrow;go_enter Tryz.func36,Tryz.ntmps36
  go_wp2_with fail
  generalize w.alloc (.cells #[.map none, .int .i64 0, .slice none 0 0] 62)=w2 at hz A0 b0 hs0 c0 c1 ⊢;refine (za hz).mono ?_;rintro e w1 ⟨h1,b1⟩;have bw1:=b0.trans (b1.mono b0.size);have A1:=A0.call b1;have hs1:=b1.size;clear hz c0 c1 b1 A0 b0
  rcases h1 with ⟨hT,B,rfl,hBw,hBm⟩|⟨hT,k,rfl⟩
  ·obtain ⟨hm0,hm4⟩:=Pl.zq9 hT;have HTB:=hide (item_tree hT);rw [Pl.zv0 hT,Pl.zs1] at HTT;obtain ⟨mm,hmm⟩:∃mm:Nat,x.m=(mm:Int):=⟨x.m.toNat,by omega⟩;rw [hmm,Int.toNat_natCast] at HTT;rw [hmm] at HIS HTB ⊢;have hm5:mm≤4:=by omega
   have hBl:=hBm.lt;clear hT hmm hm0 hm4;have bA:Below w.heap.size w ((w1.alloc (.cells #[.map (some B), .int .i64 (mm:Int)] 59)).alloc (.cells #[.map (some B), .int .i64 (mm:Int), .slice none 0 0] 62)):=(bw1.alloc bw1.size _).alloc (by simp;have :=bw1.size;omega) _
   have TK0:Hid (Tk w ((w1.alloc (.cells #[.map (some B), .int .i64 (mm:Int)] 59)).alloc (.cells #[.map (some B), .int .i64 (mm:Int), .slice none 0 0] 62)) (w1.heap.size+1+1) w.heap.size (w1.heap.size+1) B x.t.L (mm:Int) (.slice none 0 0) .nil []):=
    hide ⟨bA,by simp,(A1.alloc _).alloc _,by have :=Mem.Blk.new (w1.alloc (.cells #[.map (some B), .int .i64 (mm:Int)] 59)) #[.map (some B), .int .i64 (mm:Int), .slice none 0 0] 62;simpa using this,⟨Nat.le_refl _,by omega⟩,⟨by omega,by omega⟩,by omega,World.ownsRow_nil _ _ _ _,rfl,⟨by omega,by omega,by omega,by omega⟩,(hBm.call (bE0)).call (bE0),List.pairwise_singleton _ _⟩
   generalize hT0:Pl.take mm (Pl.rowO ((Is.drop 1).map Pl.It.r))=T0 at HTT;have HT0:Hid (Pl.went Pl.Fx.nil.shape (Pl.take (mm - Pl.Fx.nil.len) (Pl.rowO ((Is.drop 1).map Pl.It.r)))=T0):=hide (by show Pl.went .nil (Pl.take (mm - Pl.Fo.nil.len) _)=_;rw [Pl.went_start];exact hT0);have HF0:Hid (Pl.Fx.nil.okX∧Pl.Fx.nil.flat++(Is.drop 1).map Pl.It.r=(Is.drop 1).map Pl.It.r):=⟨trivial,rfl⟩;have S0:Hid (cap=1→Mem.shifted (some ⟨b,o,none⟩) (some ⟨b,o,none⟩) 1 Is):=hide (fun hc=> .inl (List.drop_eq_nil_of_le (by omega)));have S1:Hid (Mem.shifted (some ⟨b,o,none⟩) (some ⟨b,o+2,none⟩) 1 Is):=hide (.inr ⟨b,o,rfl,rfl⟩);clear hT0 A1 bw1 bA;go_wp2
   all_goals
    go_loopw [8,34] (fun rest i wr=>∃ (k:Nat) (a':Option Addr) (cap':Nat) (v:Value) (F:Pl.Fx) (xs:List Value) (r:Nat),rest= .slice a' r cap'∧i= .int .i64 (F.len:Int)∧F.len≤mm∧0<k∧k+r=Is.length∧r≤cap'∧Hid (Mem.shifted (some ⟨b,o,none⟩) a' k Is)∧Hid (Tk w wr (w1.heap.size+1+1) w.heap.size (w1.heap.size+1) B x.t.L (mm:Int) v F xs)∧Hid (F.okX∧F.flat++(Is.drop k).map Pl.It.r=(Is.drop 1).map Pl.It.r)∧Hid (Pl.went F.shape (Pl.take (mm - F.len) (Pl.rowO ((Is.drop k).map Pl.It.r)))=T0)) (fun _ i _=>mm - (intOf i).toNat)
    case atStart=>
     refine ⟨1,_,_,_, .nil,[],_,rfl,rfl,Nat.zero_le _,by omega,by omega,by omega,?_,TK0,HF0,HT0⟩
     first |exact S1|exact hide (za S0 (by omega))
    case round=>
     obtain ⟨k,a',cap',v,F,xs,r,rfl,rfl,hFm,hk,hkl,hc,HS,TK,HF,HT⟩:=hrel;clear TK0 HT0 HF0 S0 S1;by_cases hlt:F.len<mm
     ·have u1:(F.len:Int)<(mm:Int):=by omega
      have hcall:=hide (za HI k r a' cap' wr hk hkl hc (za HS) (za TK).bel);go_wp2_with fail
      refine (za hcall).mono ?_;rintro e wX ⟨h1,bX⟩;clear hcall
      rcases h1 with ⟨L1,kids,q1,v1,k1,s1,a1,cap1,ht,rfl,hk1',hc1,hs1',⟨⟨hq1,hap1⟩,hm1⟩,hfl,hlay⟩|⟨ht,rfl⟩
      ·obtain ⟨va,vcap,rfl,hrest⟩:=hlay;have HST:=hide (fun (w4:World) (v':Value) own gr far=>(za TK).step (w1:=wX) (w4:=w4) (kids:=kids) (v1:= .slice va kids.len vcap) (q1:=q1) (L1:=L1) (v':=v') (o1:= .cells #[.map (some q1), .int .i64 (kids.len:Int), .slice va kids.len vcap] 62) (o2:= .cells #[.map (some q1), .int .i64 (kids.len:Int), .slice va kids.len vcap] 62) bX ⟨va,vcap,rfl,hrest⟩ hq1 hap1 hm1 own gr far);have HMD:=hide (fun (w4:World) gr=>(za TK).mid (w1:=wX) (w4:=w4) (o1:= .cells #[.map (some q1), .int .i64 (kids.len:Int), .slice va kids.len vcap] 62) (o2:= .cells #[.map (some q1), .int .i64 (kids.len:Int), .slice va kids.len vcap] 62) bX gr)
       have HR:=hide (((ze7 (za TK).row bX).alloc (.cells #[.map (some q1), .int .i64 (kids.len:Int), .slice va kids.len vcap] 62)).alloc (.cells #[.map (some q1), .int .i64 (kids.len:Int), .slice va kids.len vcap] 62));have X7a:=((za TK).x7.call bX).alloc (.cells #[.map (some q1), .int .i64 (kids.len:Int), .slice va kids.len vcap] 62);have c72:=X7a.cell 2;simp only [kGs] at c72;have hbig:w1.heap.size+1+1≤wX.heap.size:=Nat.le_trans (za TK).big bX.size;have HS2:Hid (Mem.shifted (some ⟨b,o,none⟩) a1 (k+k1) Is):=hide hs1';obtain ⟨j,hj⟩:∃j,mm - F.len=j+1:=⟨mm - F.len - 1,by omega⟩
       have HT2:Hid (Pl.went (F.app (.cons L1 kids .nil)).shape (Pl.take (mm - (F.app (.cons L1 kids .nil)).len) (Pl.rowO ((Is.drop (k+k1)).map Pl.It.r)))=T0):=hide (by
        have h':=za HT;rw [hj,Pl.went_step ht] at h';rw [Pl.Fx.len_app,Pl.Fx.shape_app,←h']
        congr 2
        simp only [Pl.Fx.len]
        omega)
       have HF2:Hid ((F.app (.cons L1 kids .nil)).okX∧(F.app (.cons L1 kids .nil)).flat++(Is.drop (k+k1)).map Pl.It.r=(Is.drop 1).map Pl.It.r):=hide ⟨Pl.Fx.ok_app (za HF).1 hfl.1,by rw [Pl.Fx.flat_app,List.append_assoc,hfl.2];exact (za HF).2⟩;have hlen:(F.app (.cons L1 kids .nil)).len=F.len+1:=by rw [Pl.Fx.len_app];rfl
       have HLEN:=hide hlen;clear TK HS HT HF hfl hq1 hap1 hm1 ht bX hs1' hrest X7a hlen;go_wp2_with (at_builtin;refine Mem.zg _ rfl _ _ 60 rfl (w1.heap.size+1+1) 62 i0 (.agg #[.map none, .int .i64 0, .slice none 0 0]) 3 40 Tryz.underlying60 hi hz0 hz1 hz2 rfl (by decide) _ _ _ rfl (za HR) ⟨wX.heap.size+1,0,none⟩ 1 1 [.map (some q1), .int .i64 (kids.len:Int), .slice va kids.len vcap] rfl rfl (three_new _ _ _ _) (fun u hu=>by simp at hu;rcases hu with rfl |rfl |rfl <;> rfl) (by unfold maxLen;omega) (by omega) (by simp;omega) ?_)
       intro v' w4 own' hgrow hfar;have M7:=za HMD w4 hgrow;have c74:=M7.cell 2;have f74:=M7.fr 2;simp only [kGs] at c74;have TK2:=hide (za HST w4 v' own' hgrow (by simpa using hfar));obtain ⟨vb,vc,rfl⟩:=conc own';clear own' hgrow hfar M7 HMD HST HR c72;go_wp2
       go_roundw
       case rel=>exact ⟨k+k1,a1,cap1,_,_,_,s1,rfl,by rw [za HLEN];go_num,by rw [za HLEN];omega,by omega,hk1',hc1,HS2,TK2,HF2,HT2⟩
       case measure=>simp [intOf];omega
      ·obtain ⟨j,hj⟩:∃j,mm - F.len=j+1:=⟨mm - F.len - 1,by omega⟩
       have hno:TT=none:=by
        have h':=za HT;rw [hj,Pl.went_fail ht] at h';rw [←za HTT,←h'];rfl
       have X2a:=((za TK).x2.call bX).alloc (.cells #[.map none, .int .i64 0, .slice none 0 0] 62);obtain ⟨⟨c20,c21,c22⟩,f20,f21,f22⟩:=jf3 X2a
       have bb:Hid (Below w.heap.size w (wX.alloc (.cells #[.map none, .int .i64 0, .slice none 0 0] 62))):=hide (by
        have b':=(za TK).bel.trans (bX.mono (za TK).bel.size)
        exact b'.alloc b'.size _)
       clear TK HS HT ht bX X2a;go_wp2
       refine bodyPost_ret (v:= .tuple #[.agg #[.map none, .int .i64 0, .slice none 0 0], .slice none 0 0, .iface r1 x1]) (by simp [results,Tryz.results36,go_sem,c20,c21,c22]) rfl ⟨Or.inr ⟨hno,rfl⟩,?_⟩
       first |exact za bb|exact (((za bb).setCell (Nat.le_refl _) _).setCell (Nat.le_refl _) _).setCell (Nat.le_refl _) _
     ·have u1:¬ (F.len:Int)<(mm:Int):=by omega
      have hyes:Hid (TT=some (.cons F.shape .nil,Pl.rowO ((Is.drop k).map Pl.It.r))):=hide <| by
       have h':=za HT;rw [show mm - F.len=0 by omega,Pl.went_end] at h';rw [←za HTT,←h'];rfl
      have hFe:F.len=mm:=by omega
      have HFI:Hid ((Pl.Fx.cons x.t.L F .nil).okX∧(Pl.Fx.cons x.t.L F .nil).flat++(Is.drop k).map Pl.It.r=Is.map Pl.It.r):=hide ⟨⟨(za HTB).1,(za HTB).2.imp (fun h=>Pl.Fx.zm5 (by omega)) id,by omega,(za HF).1,trivial⟩,by rw [za HIS,←(za HF).2,Pl.Fx.flat,hFe];simp [Pl.Fx.flat]⟩;have HQ:=hide (za TK).lq.1;have HFE:=hide hFe;clear hFe;obtain ⟨va,vcap,rfl⟩:=(za TK).conc;have X2a:=(za TK).x2;have X7a:=(za TK).x7;obtain ⟨⟨c20,c21,c22⟩,f20,f21,f22⟩:=jf3 X2a;obtain ⟨c70,c71,c72⟩:=jc3 X7a;clear X2a X7a HT;go_wp2
      have hrl:(Is.drop k).length=r:=by rw [List.length_drop];omega
      refine bodyPost_ret (v:= .tuple #[.agg #[.map (some B), .int .i64 (mm:Int), .slice va F.len vcap], .slice a' r cap', .nilIface]) (by simp [results,Tryz.results36,go_sem,c20,c21,c22]) rfl ⟨Or.inl ⟨_,F,B,_,k,a',cap',za hyes,by rw [hrl,za HFE],hk,by omega,by rw [hrl];exact hc,za HS,⟨⟨za HQ,(za TK).apart _ _ _⟩,(za TK).own _ _ _⟩,za HFI,(za TK).done _ _ _⟩,?_⟩;exact (((za TK).bel.setCell (Nat.le_refl _) _).setCell (Nat.le_refl _) _).setCell (Nat.le_refl _) _
  ·rw [Pl.itemO_no hT] at HTT;have hno:TT=none:=(za HTT).symm;have A2:=A1.alloc (.cells #[.map none, .int .i64 k] 59);obtain ⟨⟨c20,c21,c22⟩,f20,f21,f22⟩:=jf3 A2;have bb:=hide (bw1.alloc bw1.size (.cells #[.map none, .int .i64 k] 59));clear A1 A2 hT HI bw1;go_wp2
   refine bodyPost_ret (v:= .tuple #[.agg #[.map none, .int .i64 0, .slice none 0 0], .slice none 0 0, .iface r1 x1]) (by simp [results,Tryz.results36,go_sem,c20,c21,c22]) rfl ⟨Or.inr ⟨hno,rfl⟩,?_⟩
   first |exact za bb|exact (((za bb).setCell (Nat.le_refl _) _).setCell (Nat.le_refl _) _).setCell (Nat.le_refl _) _
end zn9
end
section
open Go.RowKit
namespace zh4
structure Errs4 (w:World) (u0 u1 u2 u3:TypeId) (x0 x1 x2 x3:Value):Prop where
 c0:w.cell? ⟨0,0,none⟩=some (.iface u0 x0)
 three:zk2.Errs w u1 u2 u3 x1 x2 x3
theorem Errs4.call {w w':World} {u0 u1 u2 u3:TypeId} {x0 x1 x2 x3:Value} (h:Errs4 w u0 u1 u2 u3 x0 x1 x2 x3) (b:Below w.heap.size w w'):Errs4 w' u0 u1 u2 u3 x0 x1 x2 x3:=
 ⟨(b.cell (p:=⟨_,0,none⟩) (World.block_lt_of_cell? w ⟨_,0,none⟩ h.c0)).trans h.c0,h.three.call b⟩
end zh4
end
end Go.Proofs.YtpggbphcbcogdaaGreatDoor
