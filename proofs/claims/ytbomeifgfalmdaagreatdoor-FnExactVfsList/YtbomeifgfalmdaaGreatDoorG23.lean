/- Several texts of one claim in one file: WTakeY, WNestD, WNestX, WSpI7, Merge, OkSpace. -/
import Derived.Test.YtbomeifgfalmdaaGreatDoorG22
set_option linter.unusedSimpArgs false
set_option maxRecDepth 100000
set_option maxHeartbeats 4000000
namespace Go.Proofs.YtbomeifgfalmdaaGreatDoor
section
open Go.RowKit
namespace zu9
theorem take_here {Is:List Pl.It} {x:Pl.It} (hx:Is[0]? =some x):Pl.rowO (Is.map Pl.It.r)=Pl.zm8 (x.m,x.t.L)::Pl.rowO ((Is.drop 1).map Pl.It.r):=by
 have h:=Pl.rowO_at (xs:=Is.map Pl.It.r) (i:=0) (x:=x.r) (by rw [List.getElem?_map,hx];rfl);rw [List.drop_zero,Pl.rowO_drop,←List.map_drop] at h;exact h
theorem items_here {Is:List Pl.It} {x:Pl.It} (hx:Is[0]? =some x):Is.map Pl.It.r=(x.m,x.t.L)::(Is.drop 1).map Pl.It.r:=by
 cases Is with
 |nil=>cases hx
 |cons y Is=>
  have e:y=x:=by simpa using hx
  subst e;rfl
theorem item_tree {m:Int} {L:List Pl.Nd} (h:Pl.zg6 m L=true):Pl.zc7 L=true∧(m=0∨L=[]):=by
 unfold Pl.zg6 at h;simp only [Bool.and_eq_true,Bool.or_eq_true,decide_eq_true_eq,List.isEmpty_iff] at h;exact ⟨h.2,h.1.2⟩
def Took (w:World) (r1:TypeId) (x1:Value) (a:Option Addr) (Is:List Pl.It) (TT:Option (Pl.Fo × Pl.Row)) (e:Ending) (w':World):Prop:=
 (∃L kids q v k a' cap',TT=some (.cons kids.shape .nil,Pl.rowO ((Is.drop k).map Pl.It.r))∧e= .returned (.tuple #[.agg #[.map (some q), .int .i64 (kids.len:Int),v], .slice a' (Is.drop k).length cap', .nilIface])∧
  0<k∧k≤Is.length∧(Is.drop k).length≤cap'∧Mem.shifted a a' k Is∧((w.heap.size≤q∧Mem.apart w' q kids v)∧Mem.ownM w' q L)∧((Pl.Fx.cons L kids .nil).okX∧(Pl.Fx.cons L kids .nil).flat++(Is.drop k).map Pl.It.r=Is.map Pl.It.r)∧Mem.layX w' (fun b=>w.heap.size≤b) kids v)∨
 (TT=none∧e= .returned (.tuple #[.agg #[.map none, .int .i64 0, .slice none 0 0], .slice none 0 0, .iface r1 x1]))
theorem take_any (r1 r2 r3:TypeId) (x1 x2 x3:Value) (n:Nat):
  ∀ (Is:List Pl.It) (a:Option Addr) (cap:Nat) (w:World),Is.length≤n→Is.length≤12→Is.length≤cap→Mem.zb4 w a Is→(∀x∈Is,x.t.L.length≤1048576∧∀n∈x.t.L,n.path.size≤1048576∧n.data.size≤1048576)→zq0.Errs w r1 r2 r3 x1 x2 x3→
  Calls Tryz.prog 155 #[.slice a Is.length cap] w fun e w'=>Took w r1 x1 a Is (Pl.take 1 (Pl.rowO (Is.map Pl.It.r))) e w'∧Below w.heap.size w w':=by
 obtain ⟨i0,hi,hz0,hz1,hz2⟩:=info_parts infoN
 induction n with
 |zero=>
  intro Is a cap w hn h12 hcap hv hok hE;have e:Is=[]:=List.eq_nil_of_length_eq_zero (by omega);subst e;have b0:Below w.heap.size w (w.alloc (.cells #[.map none, .int .i64 0, .slice none 0 0] 135)):=bE0;have k1:=(hE.call b0).c1;have HB0:=hide b0;clear hv hok hE b0;go_enter Tryz.func155,Tryz.ntmps155
  go_wp2
  go_region
  go_wp2
  refine bodyPost_ret (v:= .tuple #[.agg #[.map none, .int .i64 0, .slice none 0 0], .slice none 0 0, .iface r1 x1]) (by simp [results,Tryz.results155,go_sem]) rfl ⟨Or.inr ⟨rfl,rfl⟩,?_⟩;exact Mem.below_drewN (za HB0) 1
 |succ n ih=>
  intro Is a cap w hn h12 hcap hv hok hE;have b0:Below w.heap.size w (w.alloc (.cells #[.map none, .int .i64 0, .slice none 0 0] 135)):=bE0;have A0:=Mem.Blk.new w #[.map none, .int .i64 0, .slice none 0 0] 135;have hs0:(w.alloc (.cells #[.map none, .int .i64 0, .slice none 0 0] 135)).heap.size=w.heap.size+1:=by simp
  by_cases hnil:Is.length=0
  ·have e:Is=[]:=List.eq_nil_of_length_eq_zero hnil;subst e;have k1:=(hE.call b0).c1;have HB0:=hide b0;clear hv hok hE b0 A0 ih;go_enter Tryz.func155,Tryz.ntmps155
   go_wp2
   go_region
   go_wp2
   refine bodyPost_ret (v:= .tuple #[.agg #[.map none, .int .i64 0, .slice none 0 0], .slice none 0 0, .iface r1 x1]) (by simp [results,Tryz.results155,go_sem]) rfl ⟨Or.inr ⟨rfl,rfl⟩,?_⟩;exact Mem.below_drewN (za HB0) 1
  have t0:¬ (Is.length:Int)=0:=by omega
  have t1:(0:Int)<(Is.length:Int):=by omega
  have t2:(1:Int)≤(Is.length:Int):=by omega
  obtain ⟨x,hx⟩:∃x,Is[0]? =some x:=⟨_,List.getElem?_eq_getElem (by omega)⟩;obtain ⟨⟨b,o,rfl,hb,q0,q0'⟩,q1⟩:=hv 0 x hx;have c0:=(b0.cell (p:=⟨b,_,none⟩) hb).trans q0;have c1:=(b0.cell (p:=⟨b,_,none⟩) hb).trans q0';simp only [Pl.Tr.val,Nat.zero_mul,Nat.add_zero] at c0 c1;have hz:=hide (item_any x.m x.t.a x.t.cap x.t.L _ (hok x (List.mem_of_getElem? hx)).1 (Mem.za9 q1 b0) (hok x (List.mem_of_getElem? hx)).2 r1 r2 r3 x1 x2 x3 (hE.call b0));have hrow:=take_here hx;have HIS:Hid (Is.map Pl.It.r=(x.m,x.t.L)::(Is.drop 1).map Pl.It.r):=hide (items_here hx)
  have HI:Hid (∀ (k r:Nat) (a':Option Addr) (cap':Nat) (W:World),0<k→k+r=Is.length→r≤cap'→Mem.shifted (some ⟨b,o,none⟩) a' k Is→Below w.heap.size w W→
    Calls Tryz.prog 155 #[.slice a' r cap'] W fun e w'=>((∃L kids q v k1 r1 a1 cap1,Pl.take 1 (Pl.rowO ((Is.drop k).map Pl.It.r))=some (.cons kids.shape .nil,Pl.rowO ((Is.drop (k+k1)).map Pl.It.r))∧e= .returned (.tuple #[.agg #[.map (some q), .int .i64 (kids.len:Int),v], .slice a1 r1 cap1, .nilIface])∧
     k+k1+r1=Is.length∧r1≤cap1∧Mem.shifted (some ⟨b,o,none⟩) a1 (k+k1) Is∧((W.heap.size≤q∧Mem.apart w' q kids v)∧Mem.ownM w' q L)∧((Pl.Fx.cons L kids .nil).okX∧(Pl.Fx.cons L kids .nil).flat++(Is.drop (k+k1)).map Pl.It.r=(Is.drop k).map Pl.It.r)∧Mem.layX w' (fun b=>W.heap.size≤b) kids v)∨
    (Pl.take 1 (Pl.rowO ((Is.drop k).map Pl.It.r))=none∧e= .returned (.tuple #[.agg #[.map none, .int .i64 0, .slice none 0 0], .slice none 0 0, .iface r1 x1])))∧Below W.heap.size W w'):=hide (fun k r a' cap' W hk hr hc hs bb=>by
   have hrl:(Is.drop k).length=r:=by rw [List.length_drop];omega
   have h:=ih (Is.drop k) a' cap' W (by omega) (by omega) (by omega) (Mem.zc0 (Mem.items_shift hv hs) bb) (fun y hy=>hok y (List.mem_of_mem_drop hy)) (hE.call bb);rw [hrl] at h;refine h.mono fun e w' ⟨h1,h2⟩=>⟨?_,h2⟩
   rcases h1 with ⟨L,kids,q,v,k1,a1,cap1,g1,g2,g3,g4,g5,g6,g8,g9,g7⟩|h1
   ·rw [List.drop_drop] at g1 g2 g5 g9;exact .inl ⟨L,kids,q,v,k1,(Is.drop (k+k1)).length,a1,cap1,g1,g2,by rw [List.length_drop];omega,g5,Mem.shifted_trans hs g6,g8,g9,g7⟩
   ·exact .inr h1)
  rw [hrow];generalize hTT:Pl.take 1 (Pl.zm8 (x.m,x.t.L)::Pl.rowO ((Is.drop 1).map Pl.It.r))=TT;have HTT:=hide hTT;clear hTT;clear ih hv hok hE q0 q0' q1 hx hrow;go_enter Tryz.func155,Tryz.ntmps155
  go_wp2_with fail
  generalize w.alloc (.cells #[.map none, .int .i64 0, .slice none 0 0] 135)=w2 at hz A0 b0 hs0 c0 c1 ⊢;refine (za hz).mono ?_;rintro e w1 ⟨h1,b1⟩;have bw1:=b0.trans (b1.mono b0.size);have A1:=A0.call b1;have hs1:=b1.size;clear hz c0 c1 b1 A0 b0
  rcases h1 with ⟨hT,B,rfl,hBw,hBm⟩|⟨hT,k,rfl⟩
  ·obtain ⟨hm0,hm4⟩:=Pl.zz1 hT;have HTB:=hide (item_tree hT);rw [Pl.ye9 hT,Pl.yb0] at HTT;obtain ⟨mm,hmm⟩:∃mm:Nat,x.m=(mm:Int):=⟨x.m.toNat,by omega⟩;rw [hmm,Int.toNat_natCast] at HTT;rw [hmm] at HIS HTB ⊢;have hm5:mm≤4:=by omega
   have hBl:=hBm.lt;clear hT hmm hm0 hm4;have bA:Below w.heap.size w ((w1.alloc (.cells #[.map (some B), .int .i64 (mm:Int)] 132)).alloc (.cells #[.map (some B), .int .i64 (mm:Int), .slice none 0 0] 135)):=(bw1.alloc bw1.size _).alloc (by simp;have :=bw1.size;omega) _
   have TK0:Hid (Tk w ((w1.alloc (.cells #[.map (some B), .int .i64 (mm:Int)] 132)).alloc (.cells #[.map (some B), .int .i64 (mm:Int), .slice none 0 0] 135)) (w1.heap.size+1+1) w.heap.size (w1.heap.size+1) B x.t.L (mm:Int) (.slice none 0 0) .nil []):=
    hide ⟨bA,by simp,(A1.alloc _).alloc _,by have :=Mem.Blk.new (w1.alloc (.cells #[.map (some B), .int .i64 (mm:Int)] 132)) #[.map (some B), .int .i64 (mm:Int), .slice none 0 0] 135;simpa using this,⟨Nat.le_refl _,by omega⟩,⟨by omega,by omega⟩,by omega,World.ownsRow_nil _ _ _ _,rfl,⟨by omega,by omega,by omega,by omega⟩,(hBm.call (bE0)).call (bE0),List.pairwise_singleton _ _⟩
   generalize hT0:Pl.take mm (Pl.rowO ((Is.drop 1).map Pl.It.r))=T0 at HTT;have HT0:Hid (Pl.went Pl.Fx.nil.shape (Pl.take (mm - Pl.Fx.nil.len) (Pl.rowO ((Is.drop 1).map Pl.It.r)))=T0):=hide (by show Pl.went .nil (Pl.take (mm - Pl.Fo.nil.len) _)=_;rw [Pl.went_start];exact hT0);have HF0:Hid (Pl.Fx.nil.okX∧Pl.Fx.nil.flat++(Is.drop 1).map Pl.It.r=(Is.drop 1).map Pl.It.r):=⟨trivial,rfl⟩;have S0:Hid (cap=1→Mem.shifted (some ⟨b,o,none⟩) (some ⟨b,o,none⟩) 1 Is):=hide (fun hc=> .inl (List.drop_eq_nil_of_le (by omega)));have S1:Hid (Mem.shifted (some ⟨b,o,none⟩) (some ⟨b,o+2,none⟩) 1 Is):=hide (.inr ⟨b,o,rfl,rfl⟩);clear hT0 A1 bw1 bA;go_wp2
   all_goals
    go_loopw [8,34] (fun rest i wr=>∃ (k:Nat) (a':Option Addr) (cap':Nat) (v:Value) (F:Pl.Fx) (xs:List Value) (r:Nat),rest= .slice a' r cap'∧i= .int .i64 (F.len:Int)∧F.len≤mm∧0<k∧k+r=Is.length∧r≤cap'∧Hid (Mem.shifted (some ⟨b,o,none⟩) a' k Is)∧Hid (Tk w wr (w1.heap.size+1+1) w.heap.size (w1.heap.size+1) B x.t.L (mm:Int) v F xs)∧Hid (F.okX∧F.flat++(Is.drop k).map Pl.It.r=(Is.drop 1).map Pl.It.r)∧Hid (Pl.went F.shape (Pl.take (mm - F.len) (Pl.rowO ((Is.drop k).map Pl.It.r)))=T0)) (fun _ i _=>mm - (intOf i).toNat)
    case atStart=>
     refine ⟨1,_,_,_, .nil,[],_,rfl,rfl,Nat.zero_le _,by omega,by omega,by omega,?_,TK0,HF0,HT0⟩
     first |exact S1|exact hide (za S0 (by omega))
    case round=>
     obtain ⟨k,a',cap',v,F,xs,r,rfl,rfl,hFm,hk,hkl,hc,HS,TK,HF,HT⟩:=hrel;clear TK0 HT0 HF0 S0 S1;by_cases hlt:F.len<mm
     ·have u1:(F.len:Int)<(mm:Int):=by omega
      have hcall:=hide (za HI k r a' cap' wr hk hkl hc (za HS) (za TK).bel);go_wp2_with fail
      refine (za hcall).mono ?_;rintro e wX ⟨h1,bX⟩;clear hcall
      rcases h1 with ⟨L1,kids,q1,v1,k1,s1,a1,cap1,ht,rfl,hk1',hc1,hs1',⟨⟨hq1,hap1⟩,hm1⟩,hfl,hlay⟩|⟨ht,rfl⟩
      ·obtain ⟨va,vcap,rfl,hrest⟩:=hlay;have HST:=hide (fun (w4:World) (v':Value) own gr far=>(za TK).step (w1:=wX) (w4:=w4) (kids:=kids) (v1:= .slice va kids.len vcap) (q1:=q1) (L1:=L1) (v':=v') (o1:= .cells #[.map (some q1), .int .i64 (kids.len:Int), .slice va kids.len vcap] 135) (o2:= .cells #[.map (some q1), .int .i64 (kids.len:Int), .slice va kids.len vcap] 135) bX ⟨va,vcap,rfl,hrest⟩ hq1 hap1 hm1 own gr far);have HMD:=hide (fun (w4:World) gr=>(za TK).mid (w1:=wX) (w4:=w4) (o1:= .cells #[.map (some q1), .int .i64 (kids.len:Int), .slice va kids.len vcap] 135) (o2:= .cells #[.map (some q1), .int .i64 (kids.len:Int), .slice va kids.len vcap] 135) bX gr)
       have HR:=hide (((zh6 (za TK).row bX).alloc (.cells #[.map (some q1), .int .i64 (kids.len:Int), .slice va kids.len vcap] 135)).alloc (.cells #[.map (some q1), .int .i64 (kids.len:Int), .slice va kids.len vcap] 135));have X7a:=((za TK).x7.call bX).alloc (.cells #[.map (some q1), .int .i64 (kids.len:Int), .slice va kids.len vcap] 135);have c72:=X7a.cell 2;simp only [kGs] at c72;have hbig:w1.heap.size+1+1≤wX.heap.size:=Nat.le_trans (za TK).big bX.size;have HS2:Hid (Mem.shifted (some ⟨b,o,none⟩) a1 (k+k1) Is):=hide hs1';obtain ⟨j,hj⟩:∃j,mm - F.len=j+1:=⟨mm - F.len - 1,by omega⟩
       have HT2:Hid (Pl.went (F.app (.cons L1 kids .nil)).shape (Pl.take (mm - (F.app (.cons L1 kids .nil)).len) (Pl.rowO ((Is.drop (k+k1)).map Pl.It.r)))=T0):=hide (by
        have h':=za HT;rw [hj,Pl.went_step ht] at h';rw [Pl.Fx.len_app,Pl.Fx.shape_app,←h']
        congr 2
        simp only [Pl.Fx.len]
        omega)
       have HF2:Hid ((F.app (.cons L1 kids .nil)).okX∧(F.app (.cons L1 kids .nil)).flat++(Is.drop (k+k1)).map Pl.It.r=(Is.drop 1).map Pl.It.r):=hide ⟨Pl.Fx.ok_app (za HF).1 hfl.1,by rw [Pl.Fx.flat_app,List.append_assoc,hfl.2];exact (za HF).2⟩;have hlen:(F.app (.cons L1 kids .nil)).len=F.len+1:=by rw [Pl.Fx.len_app];rfl
       have HLEN:=hide hlen;clear TK HS HT HF hfl hq1 hap1 hm1 ht bX hs1' hrest X7a hlen;go_wp2_with (at_builtin;refine Mem.zi9 _ rfl _ _ 133 rfl (w1.heap.size+1+1) 135 i0 (.agg #[.map none, .int .i64 0, .slice none 0 0]) 3 40 Tryz.underlying133 hi hz0 hz1 hz2 rfl (by decide) _ _ _ rfl (za HR) ⟨wX.heap.size+1,0,none⟩ 1 1 [.map (some q1), .int .i64 (kids.len:Int), .slice va kids.len vcap] rfl rfl (three_new _ _ _ _) (fun u hu=>by simp at hu;rcases hu with rfl |rfl |rfl <;> rfl) (by unfold maxLen;omega) (by omega) (by simp;omega) ?_)
       intro v' w4 own' hgrow hfar;have M7:=za HMD w4 hgrow;have c74:=M7.cell 2;have f74:=M7.fr 2;simp only [kGs] at c74;have TK2:=hide (za HST w4 v' own' hgrow (by simpa using hfar));obtain ⟨vb,vc,rfl⟩:=conc own';clear own' hgrow hfar M7 HMD HST HR c72;go_wp2
       go_roundw
       case rel=>exact ⟨k+k1,a1,cap1,_,_,_,s1,rfl,by rw [za HLEN];go_num,by rw [za HLEN];omega,by omega,hk1',hc1,HS2,TK2,HF2,HT2⟩
       case measure=>simp [intOf];omega
      ·obtain ⟨j,hj⟩:∃j,mm - F.len=j+1:=⟨mm - F.len - 1,by omega⟩
       have hno:TT=none:=by
        have h':=za HT;rw [hj,Pl.went_fail ht] at h';rw [←za HTT,←h'];rfl
       have X2a:=((za TK).x2.call bX).alloc (.cells #[.map none, .int .i64 0, .slice none 0 0] 135);obtain ⟨⟨c20,c21,c22⟩,f20,f21,f22⟩:=jf3 X2a
       have bb:Hid (Below w.heap.size w (wX.alloc (.cells #[.map none, .int .i64 0, .slice none 0 0] 135))):=hide (by
        have b':=(za TK).bel.trans (bX.mono (za TK).bel.size)
        exact b'.alloc b'.size _)
       clear TK HS HT ht bX X2a;go_wp2
       refine bodyPost_ret (v:= .tuple #[.agg #[.map none, .int .i64 0, .slice none 0 0], .slice none 0 0, .iface r1 x1]) (by simp [results,Tryz.results155,go_sem,c20,c21,c22]) rfl ⟨Or.inr ⟨hno,rfl⟩,?_⟩
       first |exact za bb|exact (((za bb).setCell (Nat.le_refl _) _).setCell (Nat.le_refl _) _).setCell (Nat.le_refl _) _
     ·have u1:¬ (F.len:Int)<(mm:Int):=by omega
      have hyes:Hid (TT=some (.cons F.shape .nil,Pl.rowO ((Is.drop k).map Pl.It.r))):=hide <| by
       have h':=za HT;rw [show mm - F.len=0 by omega,Pl.went_end] at h';rw [←za HTT,←h'];rfl
      have hFe:F.len=mm:=by omega
      have HFI:Hid ((Pl.Fx.cons x.t.L F .nil).okX∧(Pl.Fx.cons x.t.L F .nil).flat++(Is.drop k).map Pl.It.r=Is.map Pl.It.r):=hide ⟨⟨(za HTB).1,(za HTB).2.imp (fun h=>Pl.Fx.zt6 (by omega)) id,by omega,(za HF).1,trivial⟩,by rw [za HIS,←(za HF).2,Pl.Fx.flat,hFe];simp [Pl.Fx.flat]⟩;have HQ:=hide (za TK).lq.1;have HFE:=hide hFe;clear hFe;obtain ⟨va,vcap,rfl⟩:=(za TK).conc;have X2a:=(za TK).x2;have X7a:=(za TK).x7;obtain ⟨⟨c20,c21,c22⟩,f20,f21,f22⟩:=jf3 X2a;obtain ⟨c70,c71,c72⟩:=jc3 X7a;clear X2a X7a HT;go_wp2
      have hrl:(Is.drop k).length=r:=by rw [List.length_drop];omega
      refine bodyPost_ret (v:= .tuple #[.agg #[.map (some B), .int .i64 (mm:Int), .slice va F.len vcap], .slice a' r cap', .nilIface]) (by simp [results,Tryz.results155,go_sem,c20,c21,c22]) rfl ⟨Or.inl ⟨_,F,B,_,k,a',cap',za hyes,by rw [hrl,za HFE],hk,by omega,by rw [hrl];exact hc,za HS,⟨⟨za HQ,(za TK).apart _ _ _⟩,(za TK).own _ _ _⟩,za HFI,(za TK).done _ _ _⟩,?_⟩;exact (((za TK).bel.setCell (Nat.le_refl _) _).setCell (Nat.le_refl _) _).setCell (Nat.le_refl _) _
  ·rw [Pl.itemO_no hT] at HTT;have hno:TT=none:=(za HTT).symm;have A2:=A1.alloc (.cells #[.map none, .int .i64 k] 132);obtain ⟨⟨c20,c21,c22⟩,f20,f21,f22⟩:=jf3 A2;have bb:=hide (bw1.alloc bw1.size (.cells #[.map none, .int .i64 k] 132));clear A1 A2 hT HI bw1;go_wp2
   refine bodyPost_ret (v:= .tuple #[.agg #[.map none, .int .i64 0, .slice none 0 0], .slice none 0 0, .iface r1 x1]) (by simp [results,Tryz.results155,go_sem,c20,c21,c22]) rfl ⟨Or.inr ⟨hno,rfl⟩,?_⟩
   first |exact za bb|exact (((za bb).setCell (Nat.le_refl _) _).setCell (Nat.le_refl _) _).setCell (Nat.le_refl _) _
end zu9
end
section
open Go.RowKit
namespace zh4
theorem yf4 {w w':World} {N:Nat→Prop} {F:Pl.Fo} {b i:Nat} (h:Mem.rowF w N F b i) (bb:Below w.heap.size w w'):Mem.rowF w' N F b i:=Mem.rowF_mono (fun g hg hl=>⟨hg,Nat.lt_of_lt_of_le hl bb.size,bb.block g hl⟩) F b i h
theorem depth_any (N:Nat→Prop) (n:Nat) (hn:n≤1000):∀ (k:Pl.Fo) (q:Option Nat) (m:Int) (v:Value) (w:World),k.sz≤n→Mem.lay w N k v→
  Calls Tryz.prog 156 #[.agg #[.map q, .int .i64 m,v]] w fun e w'=>e= .returned (.int .i64 ((k.depth:Int)+1))∧Below w.heap.size w w':=by
 have base:∀ (q:Option Nat) (m:Int) (a:Option Addr) (cap:Nat) (w:World),Calls Tryz.prog 156 #[.agg #[.map q, .int .i64 m, .slice a 0 cap]] w fun e w'=>e= .returned (.int .i64 1)∧Below w.heap.size w w':=by
  intro q m a cap w;go_enter Tryz.func156,Tryz.ntmps156
  go_wp2
  go_loopw [3,9] (fun d i wr=>d= .int .i64 0∧i= .int .i64 0∧Below w.heap.size w wr) (fun _ _ _=>0)
  case atStart=>exact ⟨rfl,rfl,bE0⟩
  case round=>
   obtain ⟨rfl,rfl,hbel⟩:=hrel;go_wp2
   go_ret
   exact ⟨rfl,hbel⟩
 induction n with
 |zero=>
  intro k q m v w hs hl;obtain ⟨a,cap,rfl, -⟩:=hl;cases k with
  |nil=>exact base q m a cap w
  |cons a b=>simp [Pl.Fo.sz] at hs
 |succ n ih=>
  intro k q m v w hs hl;obtain ⟨a,cap,rfl,hrow⟩:=hl;cases k with
  |nil=>exact base q m a cap w
  |cons k0 m0=>
   rcases hrow with h|⟨g,rfl,hrow⟩
   ·cases h
   generalize hK:Pl.Fo.cons k0 m0=K at *;have hKl:=K.len_le;have hKd:=K.depth_le;have b0:Below w.heap.size w (w.alloc (.cells #[.map q, .int .i64 m, .slice (some ⟨g,0,none⟩) K.len cap] 135)):=bE0;have HI:=hide (ih (by omega));have R0:Hid (Mem.rowF (w.alloc (.cells #[.map q, .int .i64 m, .slice (some ⟨g,0,none⟩) K.len cap] 135)) N K g (0*3)):=hide (by simpa using yf4 hrow b0);clear hK ih hrow base;go_enter Tryz.func156,Tryz.ntmps156
   go_wp2
   go_loopw [3,9] (fun d i wr=>∃ (j dd:Nat) (F:Pl.Fo),d= .int .i64 (dd:Int)∧i= .int .i64 (j:Int)∧j+F.len=K.len∧max dd F.depth=K.depth∧F.sz≤n+1∧Below w.heap.size w wr∧Hid (Mem.rowF wr N F g (j*3))) (fun _ i _=>K.len - (intOf i).toNat)
   case atStart=>exact ⟨0,0,K,rfl,rfl,by omega,by omega,hs,b0,R0⟩
   case round=>
    obtain ⟨j,dd,F,rfl,rfl,hj,hmax,hsz,hbel,HR⟩:=hrel;clear R0 b0;cases F with
    |nil=>
     simp only [Pl.Fo.len,Pl.Fo.depth] at hj hmax;have u1:¬ (j:Int)<(K.len:Int):=by omega
     have hdd:dd=K.depth:=by omega
     subst hdd;go_wp2
     go_ret
     exact ⟨by show Ending.returned (.int .i64 (1+(K.depth:Int)))=_;rw [Int.add_comm],hbel⟩
    |cons k1 m1=>
     simp only [Pl.Fo.len,Pl.Fo.depth,Pl.Fo.sz] at hj hmax hsz;obtain ⟨⟨x,y,a1,cap1,c0,c1,c2,hg,hN,⟨q1,rfl⟩,⟨r1,rfl⟩,hsub⟩,hrest⟩:=za HR;have u1:(j:Int)<(K.len:Int):=by omega
     have u3:(0:Int)≤(j:Int):=by omega
     have bA:Below wr.heap.size wr (wr.alloc (.cells #[.map q1, .int .i64 r1, .slice a1 k1.len cap1] 135)):=bE0;have HL:Mem.lay wr N k1 (.slice a1 k1.len cap1):=⟨a1,cap1,rfl,hsub⟩;have hcall:=hide (za HI k1 q1 r1 _ _ (by omega) (Mem.lay_call HL bA));have HRR:=hide (yf4 hrest bA);have bw:=hbel.trans (bA.mono hbel.size);clear hsub hrest HL HR;go_wp2_with fail
     refine (za hcall).mono ?_;rintro e wX ⟨rfl,bX⟩;have bw2:=bw.trans (bX.mono bw.size);have HR2:=hide (yf4 (za HRR) bX);rw [show j*3+3=(j+1)*3 by omega] at HR2;clear hcall HRR bX bw hbel c0 c1 c2 bA;by_cases hcmp:(dd:Int)≤(k1.depth:Int)+1
     ·have e1:max (dd:Int) ((k1.depth:Int)+1)=(k1.depth:Int)+1:=by omega
      go_wp2
      go_roundw
      case rel=>exact ⟨j+1,k1.depth+1,m1,by go_num,by go_num,by omega,by omega,by omega,bw2,HR2⟩
      case measure=>simp [intOf];omega
     ·have e1:max (dd:Int) ((k1.depth:Int)+1)=(dd:Int):=by omega
      go_wp2
      go_roundw
      case rel=>exact ⟨j+1,dd,m1,by go_num,by go_num,by omega,by omega,by omega,bw2,HR2⟩
      case measure=>simp [intOf];omega
end zh4
end
section
open Go.RowKit
namespace zu9
def Nested (w:World) (r0 r1:TypeId) (x0 x1:Value) (Is:List Pl.It) (NN:Option Pl.Fo) (e:Ending) (w':World):Prop:=
 (∃L k q a cap,NN=some k.shape∧e= .returned (.tuple #[.agg #[.map (some q), .int .i64 (k.len:Int), .slice a k.len cap], .nilIface])∧((w.heap.size≤q∧Mem.apart w' q k (.slice a k.len cap))∧Mem.ownM w' q L)∧((Pl.Fx.cons L k .nil).okX∧(Pl.Fx.cons L k .nil).flat=Is.map Pl.It.r)∧Mem.layX w' (fun b=>w.heap.size≤b) k (.slice a k.len cap))∨
 (NN=none∧∃r x,e= .returned (.tuple #[.agg #[.map none, .int .i64 0, .slice none 0 0], .iface r x])∧((400<Is.length∧r=r0∧x=x0)∨(Is.length≤400∧r=r1∧x=x1)))
theorem nest_any (a:Option Addr) (cap:Nat) (Is:List Pl.It) (w:World) (hl:Is.length≤1048576) (hcap:Is.length≤cap) (hv:Mem.zb4 w a Is) (hok:∀x∈Is,x.t.L.length≤1048576∧∀n∈x.t.L,n.path.size≤1048576∧n.data.size≤1048576)
  (r0 r1 r2 r3:TypeId) (x0 x1 x2 x3:Value) (hE:zh4.zq8 w r0 r1 r2 r3 x0 x1 x2 x3):
  Calls Tryz.prog 134 #[.slice a Is.length cap] w fun e w'=>Nested w r0 r1 x0 x1 Is (Pl.nest (Pl.rowO (Is.map Pl.It.r))) e w'∧Below w.heap.size w w':=by
 have hrl:(Pl.rowO (Is.map Pl.It.r)).length=Is.length:=by rw [Pl.zm9,List.length_map]
 have b0:Below w.heap.size w (w.alloc (.cells #[.map none, .int .i64 0, .slice none 0 0] 135)):=bE0;have A0:=Mem.Blk.new w #[.map none, .int .i64 0, .slice none 0 0] 135;have k0:=(hE.call b0).c0;have k1:=(hE.call b0).three.c1;by_cases h400:400<Is.length
 ·have t0:(400:Int)<(Is.length:Int):=by omega
  rw [Pl.ye4 _ (by omega)];have HB0:=hide b0;clear hv hok hE b0 A0 hrl;go_enter Tryz.func134,Tryz.ntmps134
  go_wp2
  go_region
  go_wp2
  refine bodyPost_ret (v:= .tuple #[.agg #[.map none, .int .i64 0, .slice none 0 0], .iface r0 x0]) (by simp [results,Tryz.results134,go_sem]) rfl ⟨Or.inr ⟨rfl,_,_,rfl, .inl ⟨h400,rfl,rfl⟩⟩,?_⟩;exact Mem.below_drewN (za HB0) 1
 have t0:¬ (400:Int)<(Is.length:Int):=by omega
 by_cases h12:12<Is.length
 ·have t1:(12:Int)<(Is.length:Int):=by omega
  rw [Pl.ye4 _ (by omega)];have HB0:=hide b0;clear hv hok hE b0 A0 hrl;go_enter Tryz.func134,Tryz.ntmps134
  go_wp2
  go_region
  go_wp2
  refine bodyPost_ret (v:= .tuple #[.agg #[.map none, .int .i64 0, .slice none 0 0], .iface r1 x1]) (by simp [results,Tryz.results134,go_sem]) rfl ⟨Or.inr ⟨rfl,_,_,rfl, .inr ⟨by omega,rfl,rfl⟩⟩,?_⟩;exact Mem.below_drewN (za HB0) 1
 have t1:¬ (12:Int)<(Is.length:Int):=by omega
 have hz:=hide (take_any r1 r2 r3 x1 x2 x3 12 Is a cap _ (by omega) (by omega) hcap (Mem.zc0 hv b0) hok (hE.call b0).three);have n1:3<w.heap.size:=World.block_lt_of_cell? w ⟨_,0,none⟩ hE.three.c1;have n2:¬w.heap.size=3:=by omega
 have n3:¬3=w.heap.size:=by omega
 have HE:=hide (fun W (b:Below w.heap.size w W)=>(hE.call b).three.c1);have HRL:=hide hrl;generalize Pl.rowO (Is.map Pl.It.r)=LL at hz HRL ⊢;generalize hNN:Pl.nest LL=NN;have HNN:=hide hNN;clear hv hok hE k0 k1 hrl hNN;go_enter Tryz.func134,Tryz.ntmps134
 go_wp2_with fail
 generalize w.alloc (.cells #[.map none, .int .i64 0, .slice none 0 0] 135)=w2 at b0 A0 hz ⊢;refine (za hz).mono ?_;rintro e w1 ⟨h1,b1⟩;have bw1:=b0.trans (b1.mono b0.size);have A1:=A0.call b1;have HWW:Hid (w.heap.size<w2.heap.size):=hide A0.lt;clear hz b1 A0 b0
 rcases h1 with ⟨L,kids,q,v,k,a',cap',ht,rfl,hk,hkl,hc, -,⟨⟨hqw,hap⟩,hqm⟩,hfl,hlay⟩|⟨ht,rfl⟩
 ·obtain ⟨va,vcap,rfl,hrest⟩:=hlay;have hlen:(Is.drop k).length=Is.length - k:=List.length_drop;have hR:(Pl.rowO ((Is.drop k).map Pl.It.r)).length=Is.length - k:=by rw [Pl.zm9,List.length_map,hlen]
  have hsz:=Pl.take_sz ht;simp only [Pl.Fo.sz] at hsz;have A2:=A1.alloc (.cells #[.map (some q), .int .i64 (kids.len:Int), .slice va kids.len vcap] 135);have X2:=Mem.Blk.new w1 #[.map (some q), .int .i64 (kids.len:Int), .slice va kids.len vcap] 135;have bA:Below w1.heap.size w1 (w1.alloc (.cells #[.map (some q), .int .i64 (kids.len:Int), .slice va kids.len vcap] 135)):=bE0;have bw2:=bw1.trans (bA.mono bw1.size);have HL:Hid (Mem.layX (w1.alloc (.cells #[.map (some q), .int .i64 (kids.len:Int), .slice va kids.len vcap] 135)) (fun b=>w2.heap.size≤b) kids (.slice va kids.len vcap)):=hide (Mem.zo1 ⟨va,vcap,rfl,hrest⟩ bA);have HAP:=hide (Mem.yj8 ⟨va,vcap,rfl,hrest⟩ hap bA)
  have HQM:=hide (hqm.call bA);have HFL:=hide hfl;have HLD:Hid ((Is.drop k).length=Is.length - k):=hlen;have HQW:=hide hqw;clear hqm hfl hqw hap;rw [hlen];have hkk:Is.length - k≤12:=by omega
  generalize Is.length - k=rest at hR hkk HLD ⊢;by_cases hr0:0<rest
  ·have u1:(0:Int)<(rest:Int):=by omega
   have hno:Hid (NN=none):=hide (by rw [←za HNN];exact Pl.nest_rest ht (by omega));have e1:=za HE _ bw2;obtain ⟨⟨c20,c21,c22⟩,f20,f21,f22⟩:=jf3 A2;have BB:=hide bw2;clear A1 A2 X2 bA HL hrest bw1 bw2 HNN HE ht hlen;go_wp2
   go_region
   go_wp2
   refine bodyPost_ret (v:= .tuple #[.agg #[.map none, .int .i64 0, .slice none 0 0], .iface r1 x1]) (by simp [results,Tryz.results134,go_sem,c20,c21,c22]) rfl ⟨Or.inr ⟨za hno,_,_,rfl, .inr ⟨by omega,rfl,rfl⟩⟩,?_⟩
   first |exact Mem.below_drewN (za BB) 1|exact (((Mem.below_drewN (za BB) 1).setCell (Nat.le_refl _) _).setCell (Nat.le_refl _) _).setCell (Nat.le_refl _) _
  have u1:¬ (0:Int)<(rest:Int):=by omega
  have hdz:=kids.shape.depth_le;have hcall:=hide (zh4.depth_any _ 1000 (Nat.le_refl _) kids.shape (some q) (kids.len:Int) _ _ (by have :=za HRL;omega) (Mem.layX_lay (za HL)));go_wp2_with fail
  generalize w1.alloc (.cells #[.map (some q), .int .i64 (kids.len:Int), .slice va kids.len vcap] 135)=w3 at bA bw2 HL HAP HQM A2 X2 hcall ⊢;refine (za hcall).mono ?_;rintro e w4 ⟨rfl,b4⟩;have bw4:=bw2.trans (b4.mono bw2.size);have A4:=A2.call b4;have X4:=X2.call b4;have HL4:Hid (Mem.layX w4 (fun b=>w2.heap.size≤b) kids (.slice va kids.len vcap)):=hide (Mem.zo1 (za HL) b4);have HQ4:=hide ((za HQM).call b4);have HA4:=hide (Mem.yj8 (za HL) (za HAP) b4);clear HQM HAP;obtain ⟨⟨c20,c21,c22⟩,f20,f21,f22⟩:=jf3 A4;obtain ⟨c40,c41,c42⟩:=jc3 X4;have hs1:w2.heap.size≤w1.heap.size∨True:= .inr trivial;clear hcall HL b4 A2 X2 A4 X4 hrest hs1;by_cases h4:4<kids.shape.depth+1
  ·have u2:(4:Int)<(kids.shape.depth:Int)+1:=by omega
   have hno:Hid (NN=none):=hide (by rw [←za HNN];exact Pl.nest_deep ht h4);have e1:=za HE _ bw4;have BB:=hide bw4;clear A1 bA bw1 bw2 HNN HE ht hlen bw4 HL4;go_wp2
   go_region
   go_wp2
   refine bodyPost_ret (v:= .tuple #[.agg #[.map none, .int .i64 0, .slice none 0 0], .iface r1 x1]) (by simp [results,Tryz.results134,go_sem,c20,c21,c22]) rfl ⟨Or.inr ⟨za hno,_,_,rfl, .inr ⟨by omega,rfl,rfl⟩⟩,?_⟩
   first |exact Mem.below_drewN (za BB) 1|exact (((Mem.below_drewN (za BB) 1).setCell (Nat.le_refl _) _).setCell (Nat.le_refl _) _).setCell (Nat.le_refl _) _
  ·have u2:¬ (4:Int)<(kids.shape.depth:Int)+1:=by omega
   have hyes:Hid (NN=some kids.shape):=hide (by rw [←za HNN];exact Pl.nest_ok (by have :=za HRL;omega) ht (by omega) h4);have HW2:Hid (w.heap.size<w2.heap.size):=HWW;have BB:=hide bw4;clear A1 bA bw1 bw2 HNN HE ht hlen bw4;go_wp2
   refine bodyPost_ret (v:= .tuple #[.agg #[.map (some q), .int .i64 (kids.len:Int), .slice va kids.len vcap], .nilIface]) (by simp [results,Tryz.results134,go_sem,c20,c21,c22]) rfl ⟨Or.inl ⟨L,kids,q,va,vcap,za hyes,rfl,?_,?_,?_⟩,?_⟩
   ·have h1:=za HW2;have h2:=za HQW;exact ⟨⟨by omega,Mem.yb3 (fun b hb hlt=>by rw [heap_setCell_other _ _ _ _ (by show b≠w.heap.size;omega),heap_setCell_other _ _ _ _ (by show b≠w.heap.size;omega),heap_setCell_other _ _ _ _ (by show b≠w.heap.size;omega)]) (za HL4) (za HA4)⟩,(((za HQ4).set _ _ (by show q≠w.heap.size;omega)).set _ _ (by show q≠w.heap.size;omega)).set _ _ (by show q≠w.heap.size;omega)⟩
   ·have h3:=za HFL;have h4:Is.drop k=[]:=List.eq_nil_of_length_eq_zero (by have :=za HLD;omega);rw [h4,List.map_nil,List.append_nil] at h3;exact h3
   ·refine Mem.zo7 (fun b hb hlt=>⟨?_,by simpa using hlt,?_⟩) (za HL4)
    ·have :=za HW2;omega
    ·have :=za HW2;rw [heap_setCell_other _ _ _ _ (by show b≠w.heap.size;omega),heap_setCell_other _ _ _ _ (by show b≠w.heap.size;omega),heap_setCell_other _ _ _ _ (by show b≠w.heap.size;omega)]
   ·exact (((za BB).setCell (Nat.le_refl _) _).setCell (Nat.le_refl _) _).setCell (Nat.le_refl _) _
 ·have hno:Hid (NN=none):=hide (by rw [←za HNN];exact Pl.nest_fail ht);have A2:=A1.alloc (.cells #[.map none, .int .i64 0, .slice none 0 0] 135);have bw2:=bw1.alloc bw1.size (.cells #[.map none, .int .i64 0, .slice none 0 0] 135);obtain ⟨⟨c20,c21,c22⟩,f20,f21,f22⟩:=jf3 A2;have BB:=hide bw2;clear A1 A2 bw1 bw2 HNN HE ht;go_wp2
  refine bodyPost_ret (v:= .tuple #[.agg #[.map none, .int .i64 0, .slice none 0 0], .iface r1 x1]) (by simp [results,Tryz.results134,go_sem,c20,c21,c22]) rfl ⟨Or.inr ⟨za hno,_,_,rfl, .inr ⟨by omega,rfl,rfl⟩⟩,?_⟩
  first |exact za BB|exact (((za BB).setCell (Nat.le_refl _) _).setCell (Nat.le_refl _) _).setCell (Nat.le_refl _) _
end zu9
end
section
open Go.RowKit Go.Maps
namespace WSpI
def Insted (w:World) (N:List Pl.Ns) (RB:Bool) (e:Ending) (w':World):Prop:=
 (RB=true∧∃q E,e= .returned (.tuple #[.map (some q), .bool true])∧w.heap.size≤q∧E.map (·.1)=N.map (·.d)∧w'.ownsMap Tryz.prog 2 MapI.elem q 12 (MapI.mapOf (Pl.vals E))∧Mem.zi1 w' (w.heap.size+2) E N∧q<w.heap.size+2)∨
 (RB=false∧e= .returned (.tuple #[.map none, .bool false]))
theorem rise_apart {l:List Int} {next :Int} (h:∀k,k<l.length→Pl.zp3 l next k=true):l.Pairwise (· < ·):=by
 rw [List.pairwise_iff_getElem];have h1:=(Pl.ya8 l next).1 h;intro i j hi hj hij
 induction j with
 |zero=>omega
 |succ j ih=>
  have h2:=(h1 (j+1) l[j+1] (List.getElem?_eq_getElem hj)).2 j (l[j]'(by omega)) rfl (List.getElem?_eq_getElem (by omega));by_cases e:i=j
  ·subst e;exact h2
  ·have :=ih (by omega) (by omega);omega
theorem inst_apart {N:List (Int × Bool)} {next :Int} {k:Nat} (hk:k≤N.length) (h:∀j,j<k→Pl.zl0 N next j=true):((N.map (·.1)).take k).Pairwise (· < ·):=by
 refine rise_apart (next :=next) fun j hj=>?_;rw [List.length_take,List.length_map] at hj;have ht:N[j]? =some N[j]:=List.getElem?_eq_getElem (by omega);have h1:=h j (by omega);simp only [Pl.zl0,ht,Bool.and_eq_true] at h1;have h2:=h1.2
 have hl:Pl.zi6 ((N.map (·.1)).take k) j=Pl.zi6 (N.map (·.1)) j:=by
  cases j with
  |zero=>rfl
  |succ j=>simp only [Pl.zi6];rw [List.getElem?_take,if_pos (by omega)]
 unfold Pl.zp3 at h2 ⊢;rw [hl,List.getElem?_take,if_pos (by omega)];exact h2
theorem zo4 (s:Pl.Sp) (w:World) (hok:zb0.OkS s 1048576) (hcap:∀x∈s.N,x.Is.length≤x.cap) (hv:Mem.zh w s.ia s.N) (hl:s.N.length≤12) (hn:s.next≤1000000)
  (r0 r1 r2 r3:TypeId) (x0 x1 x2 x3:Value) (hE:zh4.zq8 w r0 r1 r2 r3 x0 x1 x2 x3):
  Calls Tryz.prog 107 #[.agg s.cs] w fun e w'=>Insted w s.N (Pl.zq4 (s.N.map WSp.nr) s.next) e w'∧Below w.heap.size w w':=by
 obtain ⟨ia,ic,N,ma,mc,M,ha,hc,H,next⟩:=s;simp only at hcap hv hl hn ⊢;have HN:=hide (fun W (b:Below w.heap.size w W) (x:Pl.Ns) (hx:x∈N) (h:Mem.zb4 W x.a x.Is)=>zu9.nest_any x.a x.cap x.Is W (hok.each x hx).1 (hcap x hx) h (hok.each x hx).2 r0 r1 r2 r3 x0 x1 x2 x3 (hE.call b));have HV:=hide hv;unfold Pl.Sp.cs;simp only;have b0:Below w.heap.size w ((w.alloc (.cells #[.slice ia N.length ic, .slice ma M.length mc, .slice ha H.length hc, .int .i64 next] 32)).alloc (.map #[] 0)):=(bE0).alloc (by simp) _;have V0:=hide ((Mem.Blk.new w #[.slice ia N.length ic, .slice ma M.length mc, .slice ha H.length hc, .int .i64 next] 32).alloc (.map #[] 0))
 have M0:Hid (((w.alloc (.cells #[.slice ia N.length ic, .slice ma M.length mc, .slice ha H.length hc, .int .i64 next] 32)).alloc (.map #[] 0)).ownsMap Tryz.prog 2 MapI.elem (w.heap.size+1) 0 (MapI.mapOf (Pl.vals []))):=hide (by
  have h:=World.ownsMap_made (w.alloc (.cells #[.slice ia N.length ic, .slice ma M.length mc, .slice ha H.length hc, .int .i64 next] 32)) Tryz.prog 2 MapI.elem;rw [show (w.alloc (.cells #[.slice ia N.length ic, .slice ma M.length mc, .slice ha H.length hc, .int .i64 next] 32)).heap.size=w.heap.size+1 by simp] at h
  exact h)
 have a0:=(za V0).cell 0;simp only [kGs] at a0;have HR1:Hid (Pl.zq4 (N.map WSp.nr) next =(List.range N.length).all (Pl.zl0 (N.map WSp.nr) next)):=hide (by unfold Pl.zq4;rw [List.length_map]);generalize Pl.zq4 (N.map WSp.nr) next =RB at HR1 ⊢;clear hok hcap hv hE;have hmm:=@run_makeMap Tryz.prog;go_enter Tryz.func107,Tryz.ntmps107
 go_wp2
 go_loopw [5,14] (fun l i wr=>∃ (k:Nat) (E:List (Int × Pl.Nv)),k≤N.length∧i= .int .i64 (k:Int)∧l= .int .i64 (Pl.zi6 (N.map (·.d)) k)∧Below w.heap.size w wr∧Hid (Mem.Blk wr w.heap.size #[.slice ia N.length ic, .slice ma M.length mc, .slice ha H.length hc, .int .i64 next] 32)∧Hid (wr.ownsMap Tryz.prog 2 MapI.elem (w.heap.size+1) k (MapI.mapOf (Pl.vals E)))∧Hid (E.map (·.1)=(N.map (·.d)).take k)∧Hid (Mem.zi1 wr (w.heap.size+2) E N)∧Hid (∀j,j<k→Pl.zl0 (N.map WSp.nr) next j=true)) (fun _ i _=>N.length - (intOf i).toNat)
 case atStart=>exact ⟨0,[],Nat.zero_le _,rfl,rfl,b0,V0,M0,hide (by simp),fun i y h=>(by simp at h),fun j h=>absurd h (by omega)⟩
 case round=>
  obtain ⟨k,E,hk,rfl,rfl,hbel,V,MO,HEI,NS,HA⟩:=hrel;clear V0 b0 a0 M0;by_cases hlt:k<N.length
  ·obtain ⟨t,ht⟩:∃n,N[k]? =some n:=⟨_,List.getElem?_eq_getElem hlt⟩;obtain ⟨⟨g,o,rfl,hg,q0,q1⟩,q2⟩:=(za HV) k t ht;have HNO:Hid (Pl.zl0 (N.map WSp.nr) next k=false→RB=false):=hide (fun h=>by rw [za HR1];exact Pl.ya3 hlt h)
   have HSTEP:Hid (Pl.zl0 (N.map WSp.nr) next k=((Pl.nest (Pl.rowO (t.Is.map Pl.It.r))).isSome&&(decide (Pl.zi6 (N.map (·.d)) k<t.d)&&decide (t.d<next)))):=hide (by
    unfold Pl.zl0 Pl.zp3;rw [List.getElem?_map,ht,List.map_map];have e:(Prod.fst ∘ WSp.nr)=fun x:Pl.Ns=>x.d:=rfl;rw [show ((fun x:Int × Bool=>x.1) ∘ WSp.nr)=fun x:Pl.Ns=>x.d from rfl,List.getElem?_map,ht]
    rfl)
   have HLAST:Hid (Pl.zi6 (N.map (·.d)) (k+1)=t.d):=hide (by
    show (match (N.map (·.d))[k]? with |none=>0|some x=>x)=_;rw [List.getElem?_map,ht]
    rfl)
   generalize Pl.zi6 (N.map (·.d)) k=L at HSTEP ⊢;have u1:(k:Int)<(N.length:Int):=by omega
   have u3:(0:Int)≤(k:Int):=by omega
   have b2:Below wr.heap.size wr (wr.alloc (.cells #[.int .i64 t.d, .slice t.a t.Is.length t.cap] 96)):=bE0;have hbel2:=hbel.trans (b2.mono hbel.size);have c0:=(hbel.cell (p:=⟨g,_,none⟩) hg).trans q0;have c1:=(hbel.cell (p:=⟨g,_,none⟩) hg).trans q1;have X2:=hide (Mem.Blk.new wr #[.int .i64 t.d, .slice t.a t.Is.length t.cap] 96);have V2:=hide ((za V).call b2);have M2:=hide (MapI.zf9 (za MO) b2);have N2:=hide ((za NS).call b2);have hlo:w.heap.size+2≤wr.heap.size:=by have :=(za MO).lt;omega
   have HC:=hide (za HN _ hbel2 t (List.mem_of_getElem? ht) (Mem.zc0 q2 hbel2));have HT:=hide ht;clear q0 q1 q2 V MO NS ht;go_upto_region 6 with fail
   have hlo2:w.heap.size+2≤(wr.alloc (.cells #[.int .i64 t.d, .slice t.a t.Is.length t.cap] 96)).heap.size:=Nat.le_trans hlo b2.size;generalize wr.alloc (.cells #[.int .i64 t.d, .slice t.a t.Is.length t.cap] 96)=wZ at hbel2 V2 X2 M2 N2 HC hlo2 ⊢;generalize wr.heap.size=X at X2 ⊢;obtain ⟨y0,y1⟩:=jc2 (za X2);clear hbel c0 c1 b2 hlo;go_wp2_with fail
   refine (za HC).mono ?_;rintro e w3 ⟨hN,bX⟩;have b3:=hbel2.trans (bX.mono hbel2.size);have V3:=hide ((za V2).call bX);have X3:=hide ((za X2).call bX);have M3:=hide (MapI.zf9 (za M2) bX);have N3:=hide ((za N2).call bX);clear HC y0 y1 V2 X2 M2 N2 hbel2
   rcases hN with ⟨L',kx,q',a',cap',hsome,rfl,hnest⟩|⟨hnone,r,x,rfl, -⟩
   ·have hs3:wZ.heap.size≤w3.heap.size:=bX.size
    have NV:Hid (Mem.zj3 w3 (w.heap.size+2) ⟨some q',kx.len,a',cap'⟩ (t.Is.map Pl.It.r)):=hide (by
     obtain ⟨⟨⟨h1,h2⟩,h3⟩,h4,h5⟩:=hnest
     exact ⟨L',kx,q',rfl,rfl,⟨⟨Nat.le_trans hlo2 h1,h2⟩,h3⟩,h4,Mem.zr6 h5 (fun b hb _=>Nat.le_trans hlo2 hb)⟩)
    rw [hsome] at HSTEP;generalize kx.len=kn at NV ⊢;clear hnest hsome bX;have b5:=b3.alloc (o:= .cells #[.map (some q'), .int .i64 (kn:Int), .slice a' kn cap'] 135) b3.size;have bA:Below w3.heap.size w3 (w3.alloc (.cells #[.map (some q'), .int .i64 (kn:Int), .slice a' kn cap'] 135)):=bE0;have V5:=hide ((za V3).call bA);have X5:=hide ((za X3).call bA);have M5:=hide (MapI.zf9 (za M3) bA);have N5:=hide ((za N3).call bA);have NV5:=hide ((za NV).call bA);have Y5:=hide (Mem.Blk.new w3 #[.map (some q'), .int .i64 (kn:Int), .slice a' kn cap'] 135);have hY:=(za M3).lt;go_upto_region 7 with fail
    generalize w3.alloc (.cells #[.map (some q'), .int .i64 (kn:Int), .slice a' kn cap'] 135)=wY at b5 V5 X5 M5 N5 NV5 Y5 ⊢;generalize w3.heap.size=Y at Y5 ⊢;obtain ⟨y0,y1⟩:=jc2 (za X5);have v3:=(za V5).cell 3;obtain ⟨z0,z1,z2⟩:=jc3 (za Y5);simp only [kGs] at v3;clear V3 X3 M3 N3 NV bA b3;by_cases h1:t.d≤L
    ·have HE0:Hid (RB=false):=hide (za HNO (by rw [za HSTEP,decide_eq_false (by omega :¬L<t.d)];simp));go_wp2
     go_ret2
     exact ⟨Or.inr ⟨za HE0,rfl⟩,b5⟩
    by_cases h2:next ≤t.d
    ·have HE0:Hid (RB=false):=hide (za HNO (by rw [za HSTEP,decide_eq_false (by omega :¬t.d<next)];simp));go_wp2
     go_ret2
     exact ⟨Or.inr ⟨za HE0,rfl⟩,b5⟩
    rw [decide_eq_true (by omega :L<t.d),decide_eq_true (by omega :t.d<next)] at HSTEP
    have HA2:Hid (∀j,j<k+1→Pl.zl0 (N.map WSp.nr) next j=true):=fun j hj=>by
     rcases Nat.lt_succ_iff_lt_or_eq.1 hj with h|h
     ·exact za HA j h
     ·rw [h,za HSTEP];rfl
    have hlow:MapI.i64 t.d:=by
     have hp:=Pl.rise_pos (l:=(N.map (·.d)).take (k+1)) (next :=next) (fun j hj=>by
      rw [List.length_take,List.length_map] at hj;have h3:=za HA2 j (by omega);have ht:N[j]? =some N[j]:=List.getElem?_eq_getElem (by omega);unfold Pl.zl0 at h3;rw [List.getElem?_map,ht] at h3;simp only [Option.map_some,Bool.and_eq_true] at h3;have h4:=h3.2;rw [List.map_map,show ((fun x:Int × Bool=>x.1) ∘ WSp.nr)=fun x:Pl.Ns=>x.d from rfl] at h4
      have hl:Pl.zi6 ((N.map (·.d)).take (k+1)) j=Pl.zi6 (N.map (·.d)) j:=by
       cases j with
       |zero=>rfl
       |succ j=>simp only [Pl.zi6];rw [List.getElem?_take,if_pos (by omega)]
      unfold Pl.zp3 at h4 ⊢;rw [hl,List.getElem?_take,if_pos (by omega)]
      exact h4) k t.d (by rw [List.getElem?_take,if_pos (by omega),List.getElem?_map,za HT];rfl)
     unfold MapI.i64;omega
    have hkey:=MapI.zo0 hlow
    have hEl:Hid (E.length=k):=hide (by
     have :=congrArg List.length (za HEI);rw [List.length_map,List.length_take,List.length_map] at this
     omega)
    have HEI2:Hid ((E++[(t.d,(⟨some q',kn,a',cap'⟩:Pl.Nv))]).map (·.1)=(N.map (·.d)).take (k+1)):=hide (by
     rw [List.map_append,za HEI,List.take_add_one,List.getElem?_map,za HT]
     rfl)
    have HPUT:Hid ((MapI.mapOf (Pl.vals E)).put (MapI.key t.d) (MapI.dat (.agg #[.map (some q'), .int .i64 (kn:Int), .slice a' kn cap']))=MapI.mapOf (Pl.vals (E++[(t.d,(⟨some q',kn,a',cap'⟩:Pl.Nv))]))):=hide (by
     show _=MapI.mapOf ((E++[(t.d,(⟨some q',kn,a',cap'⟩:Pl.Nv))]).map (fun x=>(x.1,x.2.val)));rw [List.map_append]
     exact (MapI.yc3 (Pl.vals E) (t.d, .agg #[.map (some q'), .int .i64 (kn:Int), .slice a' kn cap'])).symm)
    have hXn:Hid (X≠w.heap.size+1):=hide (fun e=>by
     obtain ⟨es,cl,h9,_⟩:=za M5;rw [←e] at h9;have h8:=za X5;unfold Mem.Blk at h8;rw [h8] at h9
     cases h9)
    clear HSTEP HNO;go_wp2_with (first |(at_mapUpdate;refine wpList_mapUpdate_own _ rfl _ _ _ 63 rfl 2 135 MapI.law Tryz.underlying63 _ (w.heap.size+1) k _ rfl (za M5) (by unfold maxLen;omega) _ _ _ rfl rfl hkey _ [] (MapI.zt2 (.agg #[.map (some q'), .int .i64 (kn:Int), .slice a' kn cap'])) ?_;intro wD hownD hgrowD;have cD:=hgrowD.cell y0 (fun e=>za hXn (Option.some.inj e));have M6:=hide hownD;have V6:=hide ((za V5).grown hgrowD (fun e=>by have :=Option.some.inj e;omega));have N6:=hide ((za N5).grown hgrowD (by omega));have NV6:=hide ((za NV5).grown hgrowD (by omega));have b6:=b5.grown hgrowD b5.size (fun j hj=>by have :=Option.some.inj hj;omega);clear hownD hgrowD)|fail)
    rw [za HPUT] at M6;have N7:=hide ((za N6).snoc (x:=t) (by rw [za hEl];exact za HT) (za NV6));go_wp2
    go_roundw
    case rel=>exact ⟨k+1,E++[(t.d,⟨some q',kn,a',cap'⟩)],by omega,by go_num,by rw [za HLAST],b6,V6,M6,HEI2,N7,HA2⟩
    case measure=>simp [intOf];omega
   ·have HE0:Hid (RB=false):=hide (za HNO (by rw [za HSTEP,hnone];rfl));have b5:=b3.alloc (o:= .cells #[.map none, .int .i64 0, .slice none 0 0] 135) b3.size;clear hnone bX;go_wp2
    go_ret2
    exact ⟨Or.inr ⟨za HE0,rfl⟩,b5⟩
  ·have u1:¬ (k:Int)<(N.length:Int):=by omega
   have hke:k=N.length:=by omega
   have HE:Hid (RB=true):=hide (by rw [za HR1];exact Pl.zw9 (fun j hj=>za HA j (by omega)));have HF:Hid (E.map (·.1)=N.map (·.d)):=hide (by rw [za HEI,hke,List.take_of_length_le (by rw [List.length_map];omega)]);have MF:=hide ((za MO).mono (show k≤12 by omega));go_wp2
   go_ret2
   exact ⟨Or.inl ⟨za HE,w.heap.size+1,E,rfl,by omega,za HF,za MF,za NS,by omega⟩,hbel⟩
end WSpI
end
section

theorem wp_merge {P:Program} {code:Code} {Q:Exit→Act→World→Prop} {T:Array Value} {D:List _} {w:World} (R:Array Value→Array Value→World→Prop)
  (h:code.wp P (fun e a W=>e= .normal∧a.defers=D∧R T a.tmps W) ⟨T,D⟩ w) (h2:∀T' W,R T T' W→Q .normal ⟨T',D⟩ W):code.wp P Q ⟨T,D⟩ w:=
 Code.wp_mono (fun e a W ⟨h1,h3,h4⟩=>by
  obtain ⟨t,d⟩:=a;simp only at h3;subst h1 h3
  exact h2 _ _ h4) h
end
section
open Go.RowKit
namespace WSpI
structure OkN (s:Pl.Sp):Prop where
 m:∀x∈s.M,MapI.i64 x.i
 h:∀x∈s.H,MapI.i64 x.i
end WSpI
namespace OpenSp
structure OkP (w:World) (s:Pl.Sp):Prop where
 sp:Mem.zd9 w s
 ok:zb0.OkS s maxLen
 num:WSpI.OkN s
end OpenSp
end
end Go.Proofs.YtbomeifgfalmdaaGreatDoor
