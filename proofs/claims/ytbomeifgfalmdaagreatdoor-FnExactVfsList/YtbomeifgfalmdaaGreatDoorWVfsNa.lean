import Derived.Test.YtbomeifgfalmdaaGreatDoorWLawEs
import Derived.Test.YtbomeifgfalmdaaGreatDoorG12
set_option linter.unusedSimpArgs false
namespace Go.Proofs.YtbomeifgfalmdaaGreatDoor
open Go.RowKit
namespace WVfs
def nilS:Pl.Sp:=⟨none,0,[],none,0,[],none,0,[],0⟩
theorem nil_ok {s:Pl.Sp} (hk:zb0.OkS s 1048576):zb0.OkS nilS 1048576:=zb0.sub_ok hk (A:=Pl.Ao.ill 0) (Pl.nil_sub s ⟨rfl,rfl,rfl,rfl⟩) (Pl.nil_fits ⟨rfl,rfl,rfl,rfl⟩)
theorem nil_sm:WSpO.Sm nilS:=WSpO.sub_sm (A:=Pl.Ao.ill 0) (Pl.nil_small ⟨rfl,rfl,rfl,rfl⟩) (Pl.nil_fits ⟨rfl,rfl,rfl,rfl⟩)
theorem nil_space (W:World):Mem.zd9 W nilS:=⟨Mem.yg0 _ _,Mem.yc4 _ _,Mem.yf3 _ _⟩
structure AnN (W:World) (v:Value) (K:List ByteArray) (S1 HH:Nat):Prop where
 own:ze3.Own W S1 v K
 hi:∀g,v.ownBlock=some g→g<HH
 s5:HH≤W.heap.size
theorem AnN.call {W W':World} {v:Value} {K:List ByteArray} {S1 HH:Nat} (h:AnN W v K S1 HH) (b:Below W.heap.size W W'):AnN W' v K S1 HH:=⟨h.own.call b,h.hi,Nat.le_trans h.s5 b.size⟩
theorem AnN.band {W W':World} {v:Value} {K:List ByteArray} {S1 HH Y X:Nat} (h:AnN W v K S1 HH) (b:Mem.Band Y X W W') (hX:X≤S1):AnN W' v K S1 HH:=
 ⟨b.row h.own (fun q hq=> .inr (Nat.le_trans hX (h.own.lt q hq).1)),h.hi,Nat.le_trans h.s5 b.size⟩
theorem AnN.space {W:World} {v:Value} {K:List ByteArray} {S1 HH:Nat} (h:AnN W v K S1 HH):Mem.zd4 W v K:=h.own.texts
structure MkN (W:World) (v:Value) (n:Nat):Prop where
 t:Mem.zd4 W v (Pl.marks 1 n)
theorem MkN.call {W W':World} {v:Value} {n:Nat} (h:MkN W v n) (b:Below W.heap.size W W'):MkN W' v n:=⟨Mem.zs9 h.t b⟩
theorem Mk8_nil (W:World):WSpO.Mk8 W nilS:=⟨Mem.yg0 _ _,Mem.yc4 _ _,Mem.yf3 _ _⟩
set_option maxRecDepth 100000 in
set_option maxHeartbeats 1000000 in
theorem eqN_any (va ua:Option Addr) (vc uc:Nat) (K:List ByteArray) (c:Int) (w:World) (hs:zb0.OkS nilS 1048576) (hK:K.length≤480) (hv:Mem.zd4 w (.slice va K.length vc) K) (hu:Mem.zd4 w (.slice ua K.length uc) K):
  Calls Tryz.prog 8 #[vnl (.slice va K.length vc) c,vnl (.slice ua K.length uc) c] w fun e w'=>e= .returned (.bool true)∧Below w.heap.size w w':=by
 have HE:=hide (fun W=>zb0.yh1 nilS nilS W hs rfl rfl rfl rfl (nil_space W) (nil_space W));have HT:=hide (fun W (b:Below w.heap.size w W)=>zk4.eq_any (.slice va K.length vc) (.slice ua K.length uc) K W (by omega) (Mem.zs9 hv b) (Mem.zs9 hu b));clear hs hv hu;unfold vnl;unfold Pl.Sp.cs nilS at HE;simp only [List.length_nil] at HE;have b0:Below w.heap.size w ((w.alloc (.cells #[.slice none 0 0, .slice none 0 0, .slice none 0 0, .int .i64 0, .string ⟨#[]⟩, .slice va K.length vc, .int .i64 0, .int .i64 0, .int .i64 c] 35)).alloc (.cells #[.slice none 0 0, .slice none 0 0, .slice none 0 0, .int .i64 0, .string ⟨#[]⟩, .slice ua K.length uc, .int .i64 0, .int .i64 0, .int .i64 c] 35)):=(bE0).alloc (by simp) _
 have V0:=hide ((Mem.Blk.new w #[.slice none 0 0, .slice none 0 0, .slice none 0 0, .int .i64 0, .string ⟨#[]⟩, .slice va K.length vc, .int .i64 0, .int .i64 0, .int .i64 c] 35).alloc (.cells #[.slice none 0 0, .slice none 0 0, .slice none 0 0, .int .i64 0, .string ⟨#[]⟩, .slice ua K.length uc, .int .i64 0, .int .i64 0, .int .i64 c] 35))
 have X0:Hid (Mem.Blk ((w.alloc (.cells #[.slice none 0 0, .slice none 0 0, .slice none 0 0, .int .i64 0, .string ⟨#[]⟩, .slice va K.length vc, .int .i64 0, .int .i64 0, .int .i64 c] 35)).alloc (.cells #[.slice none 0 0, .slice none 0 0, .slice none 0 0, .int .i64 0, .string ⟨#[]⟩, .slice ua K.length uc, .int .i64 0, .int .i64 0, .int .i64 c] 35)) (w.heap.size+1) #[.slice none 0 0, .slice none 0 0, .slice none 0 0, .int .i64 0, .string ⟨#[]⟩, .slice ua K.length uc, .int .i64 0, .int .i64 0, .int .i64 c] 35):=hide (Mem.zh9 _ _ _);obtain ⟨a0,a1,a2,a3⟩:=jc4 (za V0);obtain ⟨x0,x1,x2,x3⟩:=jc4 (za X0);go_enter Tryz.func8,Tryz.ntmps8
 go_wp2_with fail
 generalize ((w.alloc (.cells #[.slice none 0 0, .slice none 0 0, .slice none 0 0, .int .i64 0, .string ⟨#[]⟩, .slice va K.length vc, .int .i64 0, .int .i64 0, .int .i64 c] 35)).alloc (.cells #[.slice none 0 0, .slice none 0 0, .slice none 0 0, .int .i64 0, .string ⟨#[]⟩, .slice ua K.length uc, .int .i64 0, .int .i64 0, .int .i64 c] 35))=wA at b0 V0 X0 a0 a1 a2 a3 x0 x1 x2 x3 ⊢;refine (za HE _).mono ?_;rintro e w1 ⟨rfl,bX⟩;have b1:=b0.trans (bX.mono b0.size);have V1:=hide ((za V0).call bX);have X1:=hide ((za X0).call bX);clear HE bX V0 X0 b0 a0 a1 a2 a3 x0 x1 x2 x3;have a4:=(za V1).cell 4;have a5:=(za V1).cell 5;have x4:=(za X1).cell 4;have x5:=(za X1).cell 5;simp only [kGs] at a4 a5 x4 x5;go_wp2_with fail
 refine (za HT _ b1).mono ?_;rintro e w2 ⟨rfl,bX⟩;have b2:=b1.trans (bX.mono b1.size);have V2:=hide ((za V1).call bX);have X2:=hide ((za X1).call bX);clear bX V1 X1 b1 a4 a5 x4 x5;have a6:=(za V2).cell 6;have a7:=(za V2).cell 7;have a8:=(za V2).cell 8;have x6:=(za X2).cell 6;have x7:=(za X2).cell 7;have x8:=(za X2).cell 8;simp only [kGs] at a6 a7 a8 x6 x7 x8;go_wp2
 go_ret
 exact ⟨rfl,b2⟩
set_option maxRecDepth 100000 in
set_option maxHeartbeats 1000000 in
theorem markN_any (va:Option Addr) (vc:Nat) (K:List ByteArray) (c:Int) (S1 HH:Nat) (w:World) (hK:K.length≤480) (h:AnN w (.slice va K.length vc) K S1 HH):
  Calls Tryz.prog 11 #[vnl (.slice va K.length vc) c, .int .i64 1] w fun e w'=>e= .returned (.int .i64 ((1+K.length:Nat):Int))∧MkN w' (.slice va K.length vc) K.length∧Mem.Band S1 HH w w':=by
 have HC:=hide (fun (W:World)=>WSpO.markSp_any nilS W.heap.size W.heap.size W.heap.size W.heap.size (fun _=>0) (fun _=>0) W nil_sm (WSpO.An.nil W W.heap.size (Nat.le_refl _)));have HT:=hide (fun W (b:Below w.heap.size w W)=>ze3.lay_own (.slice va K.length vc) K.length S1 (K.map Value.string) W (by omega) (h.own.call b));have HHI:=hide (fun W (b:Below w.heap.size w W) g (e:(Value.slice va K.length vc).ownBlock=some g)=>(⟨(h.own.lt g e).1,h.hi g e⟩:_∧_));have hHH:=h.s5;clear h;unfold vnl;rw [show WSpO.kF nilS=1 from rfl] at HC;unfold Pl.Sp.cs nilS at HC;simp only [List.length_nil] at HC;have b0:=(Below.refl w.heap.size w).alloc (o:= .cells #[.slice none 0 0, .slice none 0 0, .slice none 0 0, .int .i64 0, .string ⟨#[]⟩, .slice va K.length vc, .int .i64 0, .int .i64 0, .int .i64 c] 35) (Nat.le_refl _)
 have V0:=hide (Mem.Blk.new w #[.slice none 0 0, .slice none 0 0, .slice none 0 0, .int .i64 0, .string ⟨#[]⟩, .slice va K.length vc, .int .i64 0, .int .i64 0, .int .i64 c] 35);obtain ⟨a0,a1,a2,a3⟩:=jc4 (za V0);go_enter Tryz.func11,Tryz.ntmps11
 go_wp2_with fail
 generalize w.alloc (.cells #[.slice none 0 0, .slice none 0 0, .slice none 0 0, .int .i64 0, .string ⟨#[]⟩, .slice va K.length vc, .int .i64 0, .int .i64 0, .int .i64 c] 35)=wA at b0 V0 a0 a1 a2 a3 ⊢;refine (za HC _).mono ?_;rintro e w1 ⟨rfl, -,bd⟩;have bX:Below wA.heap.size wA w1:=⟨bd.os,bd.tape,bd.output,bd.size,fun j hj=>bd.block j hj (.inl hj)⟩;have V1:=hide ((za V0).call bX);have b1:=b0.trans (bX.mono b0.size);clear HC bd bX b0 V0 a0 a1 a2 a3;have a5:=(za V1).cell 5;simp only [kGs] at a5;go_wp2_with fail
 refine (za HT _ b1).mono ?_;rintro e w2 ⟨rfl,hm,gr⟩;have HM2:=hide (⟨hm⟩:MkN w2 (.slice va K.length vc) K.length)
 have HB2:Hid (Mem.Band S1 HH w w2):=hide ((Mem.Band.of_below b1:Mem.Band S1 HH w w1).trans (by
  cases hb:(Value.slice va K.length vc).ownBlock with
  |none=>rw [hb] at gr;exact ⟨gr.os,gr.tape,gr.output,gr.size,fun j hj _=>gr.block j hj (fun e=>by cases e)⟩
  |some g=>rw [hb] at gr;exact Mem.Band.zt3 gr (za HHI w1 b1 g hb).1 (za HHI w1 b1 g hb).2))
 clear V1 a5 hm gr HHI HT b1;go_wp2
 go_ret
 exact ⟨rfl,za HM2,za HB2⟩
set_option maxRecDepth 100000 in
set_option maxHeartbeats 1000000 in
theorem heldN_any (va:Option Addr) (vc:Nat) (K:List ByteArray) (c:Int) (w:World) (hK:K.length≤480) (h:MkN w (.slice va K.length vc) K.length):
  Calls Tryz.prog 12 #[vnl (.slice va K.length vc) c, .int .i64 1] w fun e w'=>e= .returned (.int .i64 ((1+K.length:Nat):Int))∧Below w.heap.size w w':=by
 have HC:=hide (fun W=>WSpO.heldSp_any nilS W nil_sm (Mk8_nil W));have HT:=hide (fun W (b:Below w.heap.size w W)=>zk4.zg9 (.slice va K.length vc) K.length 1 W (by omega) (by omega) (by omega) (h.call b).t);clear h;unfold vnl;rw [show WSpO.kF nilS=1 from rfl] at HC;unfold Pl.Sp.cs nilS at HC;simp only [List.length_nil] at HC;have b0:=(Below.refl w.heap.size w).alloc (o:= .cells #[.slice none 0 0, .slice none 0 0, .slice none 0 0, .int .i64 0, .string ⟨#[]⟩, .slice va K.length vc, .int .i64 0, .int .i64 0, .int .i64 c] 35) (Nat.le_refl _);have V0:=hide (Mem.Blk.new w #[.slice none 0 0, .slice none 0 0, .slice none 0 0, .int .i64 0, .string ⟨#[]⟩, .slice va K.length vc, .int .i64 0, .int .i64 0, .int .i64 c] 35);obtain ⟨a0,a1,a2,a3⟩:=jc4 (za V0)
 go_enter Tryz.func12,Tryz.ntmps12
 go_wp2_with fail
 generalize w.alloc (.cells #[.slice none 0 0, .slice none 0 0, .slice none 0 0, .int .i64 0, .string ⟨#[]⟩, .slice va K.length vc, .int .i64 0, .int .i64 0, .int .i64 c] 35)=wA at b0 V0 a0 a1 a2 a3 ⊢;refine (za HC _).mono ?_;rintro e w1 ⟨rfl,bX⟩;have b1:=b0.trans (bX.mono b0.size);have V1:=hide ((za V0).call bX);clear HC bX b0 V0 a0 a1 a2 a3;have a5:=(za V1).cell 5;simp only [kGs] at a5;go_wp2_with fail
 refine (za HT _ b1).mono ?_;rintro e w2 ⟨rfl,bX⟩;have b2:=b1.trans (bX.mono b1.size);clear V1 a5 bX b1;go_wp2
 go_ret
 exact ⟨rfl,b2⟩
end WVfs
end Go.Proofs.YtbomeifgfalmdaaGreatDoor
