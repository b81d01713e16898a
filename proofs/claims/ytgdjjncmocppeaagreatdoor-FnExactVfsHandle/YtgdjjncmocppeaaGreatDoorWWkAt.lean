import Derived.Test.YtgdjjncmocppeaaGreatDoorG02
import Derived.Test.YtgdjjncmocppeaaGreatDoorG17
import Derived.Test.YtgdjjncmocppeaaGreatDoorG22
import Derived.Test.YtgdjjncmocppeaaGreatDoorG23
import Derived.Deep.Cut
namespace Go.Proofs.YtgdjjncmocppeaaGreatDoor
open Go.RowKit Go.Maps
namespace WWk
open zg9
structure Fin (W0 W:World) (Q:Nat→World→Prop) (B lo hi p x g n cap:Nat) (vs:Nat→Value) (bl bh:Nat→Nat) (cs sg:Array Value) (hv:List Bool) (X:Nat):Prop where
 bel:Mem.Band lo hi W0 W
 mid:Mid Q B lo hi p x g n cap vs bl bh cs hv W
 res:Mem.Blk W W0.heap.size #[.string ⟨#[]⟩, .int .i64 0, .string ⟨#[]⟩, .int .i64 0, .int .i64 0] 56
 seen:Mem.Blk W X sg 246
 far:W0.heap.size<X
theorem same_grown {B lo hi X:Nat} {W W':World} (b:W.grownBy W' (some X)) (h1:hi≤X) (h2:B≤X):Same B lo hi W W':=⟨b.size,fun c hc hh=>b.block c hc (fun e=>by cases e;omega)⟩
theorem Fin.put {w W:World} {Q:Nat→World→Prop} {B lo hi p x g n cap X:Nat} {vs:Nat→Value} {bl bh:Nat→Nat} {cs:Array Value} {hv:List Bool} (h:Fin w W Q B lo hi p x g n cap vs bl bh cs #[.bool false, .string ⟨#[]⟩, .int .i64 0, .string ⟨#[]⟩, .int .i64 0, .int .i64 0, .bool false, .bool false, .bool false, .bool false] hv X) (hhi:hi≤w.heap.size) (hp:p<hi) (hQ:∀i,i<n→Local B (bl i) (bh i) (Q i)) (ut:Bool) (up:ByteArray) (uk:Int) (ud:ByteArray) (un um:Int) (v0 v1 v2 v3:Bool):
  Fin w ((((((((((W.setCell ⟨X,0,none⟩ (.bool ut)).setCell ⟨X,1,none⟩ (.string up)).setCell ⟨X,2,none⟩ (.int .i64 uk)).setCell ⟨X,3,none⟩ (.string ud)).setCell ⟨X,4,none⟩ (.int .i64 un)).setCell ⟨X,5,none⟩ (.int .i64 um)).setCell ⟨X,6,none⟩ (.bool v0)).setCell ⟨X,7,none⟩ (.bool v1)).setCell ⟨X,8,none⟩ (.bool v2)).setCell ⟨X,9,none⟩ (.bool v3)) Q B lo hi p x g n cap vs bl bh cs #[.bool ut, .string up, .int .i64 uk, .string ud, .int .i64 un, .int .i64 um, .bool v0, .bool v1, .bool v2, .bool v3] hv X:=by
 have hX:=h.far;have G:W.grownBy ((((((((((W.setCell ⟨X,0,none⟩ (.bool ut)).setCell ⟨X,1,none⟩ (.string up)).setCell ⟨X,2,none⟩ (.int .i64 uk)).setCell ⟨X,3,none⟩ (.string ud)).setCell ⟨X,4,none⟩ (.int .i64 un)).setCell ⟨X,5,none⟩ (.int .i64 um)).setCell ⟨X,6,none⟩ (.bool v0)).setCell ⟨X,7,none⟩ (.bool v1)).setCell ⟨X,8,none⟩ (.bool v2)).setCell ⟨X,9,none⟩ (.bool v3)) (some X):=za2 (za2 (za2 (za2 (za2 (za2 (za2 (za2 (za2 (za2 (Mem.zc1 (Below.refl _ W) (some X)) 0 (.bool ut)) 1 (.string up)) 2 (.int .i64 uk)) 3 (.string ud)) 4 (.int .i64 un)) 5 (.int .i64 um)) 6 (.bool v0)) 7 (.bool v1)) 8 (.bool v2)) 9 (.bool v3)
 have K:=Mem.Blk.put (Mem.Blk.put (Mem.Blk.put (Mem.Blk.put (Mem.Blk.put (Mem.Blk.put (Mem.Blk.put (Mem.Blk.put (Mem.Blk.put (Mem.Blk.put (h.seen) 0 (.bool ut)) 1 (.string up)) 2 (.int .i64 uk)) 3 (.string ud)) 4 (.int .i64 un)) 5 (.int .i64 um)) 6 (.bool v0)) 7 (.bool v1)) 8 (.bool v2)) 9 (.bool v3);simp only [kB3,kB4,kB5] at K;exact ⟨h.bel.grown G (by omega),h.mid.grown hQ G (by omega) hp,h.res.grown G (fun e=>by have :=Option.some.inj e;omega),K,hX⟩
set_option linter.unusedSimpArgs false in
set_option maxRecDepth 100000 in
set_option maxHeartbeats 4000000 in
theorem at_walk {P Q:Nat→World→Prop} {B lo hi p x g n cap:Nat} {vs:Nat→Value} {bl bh:Nat→Nat} {q:ByteArray} {f:Nat→Option Pl.Nd} {ns:List (Option Pl.Nd)} (a0 a1 a2 a3:Bool) (w:World) (h:Co P B lo hi p x g n cap vs bl bh [a0,a1,a2,a3] w) (h4:n≤4)
  (hP:∀i,i<n→Local B (bl i) (bh i) (P i)) (hQ:∀i,i<n→Local B (bl i) (bh i) (Q i)) (hA:∀i W,i<n→hi≤W.heap.size→P i W→Ask W (vs i) q (f i) (bl i) (bh i) (Q i)) (hm:∀k m,f k=some m→0≤m.mark∧m.mark≤8)
  (hlen:ns.length=n) (hns:∀i a,i<n→[a0,a1,a2,a3][i]? =some a→ns[i]? =some (if a then f i else none)):
  Calls Tryz.prog 208 #[.pointer (some ⟨p,0,none⟩), .string q] w fun e w'=>e= .returned (.tuple #[(Pl.decS ns).node.val, .bool (Pl.decS ns).told])∧Mem.Band lo hi w w'∧Co Q B lo hi p x g n cap vs bl bh (Pl.decS ns).have' w':=by
 have hhi:=h.lv.size;have hB:=h.lv.base;have HD:=hide (fun W' (b:Below w.heap.size w W')=>dec_walk a0 a1 a2 a3 (h.same hP ⟨b.size,fun c hc _=>b.block c hc⟩) h4 hP hQ hA hm hlen hns);have HQ:=hide hQ;have hpn:=h.pin;have hpx:=h.px;have hpg:=h.pg;have hfp:=h.farP;have HPB:Hid (Mem.Blk w p #[zi8 x, .bool a0, .bool a1, .bool a2, .bool a3] 249):=hide h.blk;have HU4:=hide (Pl.dec_len ns);clear h hP hQ hA hm hlen hns;generalize Pl.decS ns=U at HD HU4 ⊢;obtain ⟨ut,⟨up,uk,ud,un,um⟩,uh⟩:=U
 obtain ⟨v0,v1,v2,v3,rfl⟩:∃h0 h1 h2 h3,uh=[h0,h1,h2,h3]:=by
  match uh,za HU4 with
  | [a,b,c,d],_=>exact ⟨a,b,c,d,rfl⟩
 clear HU4;simp only [Pl.Nd.val];replace HD:Hid (∀W',Below w.heap.size w W'→Calls Tryz.prog 149 #[.string q, .agg #[.bool a0, .bool a1, .bool a2, .bool a3], .pointer (some ⟨x,0,none⟩)] W' fun e w'=>e= .returned (.agg #[.bool ut, .string up, .int .i64 uk, .string ud, .int .i64 un, .int .i64 um, .bool v0, .bool v1, .bool v2, .bool v3])∧Mem.Band lo hi W' w'∧Mid Q B lo hi p x g n cap vs bl bh #[zi8 x, .bool a0, .bool a1, .bool a2, .bool a3] [v0,v1,v2,v3] w'):=HD;have b0:Below w.heap.size w (w.alloc (.cells #[.string ⟨#[]⟩, .int .i64 0, .string ⟨#[]⟩, .int .i64 0, .int .i64 0] 56)):=bE0;have R0:=Mem.Blk.new w #[.string ⟨#[]⟩, .int .i64 0, .string ⟨#[]⟩, .int .i64 0, .int .i64 0] 56;have P0:=(za HPB).call b0;clear HPB;go_enter Tryz.func208,Tryz.ntmps208
 go_wp2_with fail
 have MK:Hid (∀W',Mem.Blk W' p #[zi8 x, .bool a0, .bool a1, .bool a2, .bool a3] 249→(W'.cell? ⟨p,0,none⟩=some (zi8 x)∧W'.cell? ⟨p,1,none⟩=some (.bool a0)∧W'.cell? ⟨p,2,none⟩=some (.bool a1)∧W'.cell? ⟨p,3,none⟩=some (.bool a2)∧W'.cell? ⟨p,4,none⟩=some (.bool a3))):=hide fun W' h=>⟨h.cell 0,h.cell 1,h.cell 2,h.cell 3,h.cell 4⟩
 refine wp_merge (R:=fun T T' W=>∃X,T'=(((((((((((T.setIfInBounds 7 (.pointer (some ⟨p,0,none⟩))).setIfInBounds 8 (.pointer (some ⟨p,0,none⟩))).setIfInBounds 9 (.pointer (some ⟨p,0,none⟩))).setIfInBounds 10 (zi8 x)).setIfInBounds 11 (.string q)).setIfInBounds 12 (.pointer (some ⟨p,0,none⟩))).setIfInBounds 13 (.pointer (some ⟨p,0,none⟩))).setIfInBounds 14 (.pointer (some ⟨p,1,none⟩))).setIfInBounds 15 (.agg #[.bool a0, .bool a1, .bool a2, .bool a3])).setIfInBounds 16 (.agg #[.bool ut, .string up, .int .i64 uk, .string ud, .int .i64 un, .int .i64 um, .bool v0, .bool v1, .bool v2, .bool v3])).setIfInBounds 6 (.pointer (some ⟨X,0,none⟩)))∧Fin w W Q B lo hi p x g n cap vs bl bh #[zi8 x, .bool a0, .bool a1, .bool a2, .bool a3] #[.bool ut, .string up, .int .i64 uk, .string ud, .int .i64 un, .int .i64 um, .bool v0, .bool v1, .bool v2, .bool v3] [v0,v1,v2,v3] X) ?_ ?_
 ·refine wp_region_held_drew (S:=fun W'=>W'.cell? ⟨p,0,none⟩=some (zi8 x)∧W'.cell? ⟨p,1,none⟩=some (.bool a0)∧W'.cell? ⟨p,2,none⟩=some (.bool a1)∧W'.cell? ⟨p,3,none⟩=some (.bool a2)∧W'.cell? ⟨p,4,none⟩=some (.bool a3)) (by kernel_rfl) ?_ (fun hHeld=>?_)
  ·exact za MK _ (P0.call (bD _))
  have bD0:=b0.trans ((bD (n:=w.heap.size) (w.alloc (.cells #[.string ⟨#[]⟩, .int .i64 0, .string ⟨#[]⟩, .int .i64 0, .int .i64 0] 56))));have RD:=R0.call (bD _);have PD:=P0.call (bD _);clear b0 R0 P0;generalize (w.alloc (.cells #[.string ⟨#[]⟩, .int .i64 0, .string ⟨#[]⟩, .int .i64 0, .int .i64 0] 56)).drew=D0 at hHeld bD0 RD PD ⊢;refine TB 0 ?_;refine TB 1 ?_;refine TB 2 ?_;refine TB 3 ?_;refine TB 4 ?_;refine TB 5 ?_;refine TB 6 ?_;refine TB 7 ?_;refine TB 8 ?_;refine wpAnyH_ready (rs:=[9,10]) (by kernel_rfl) (by simp) ?_;refine AllReadyH.cons rfl (fun K_ hK=>?_) (AllReadyH.cons rfl (fun K_ hK=>?_) AllReadyH.nil)
  ·go_simp
   refine (za HD D0 bD0).mono ?_;rintro e w1 ⟨rfl,bb,mm⟩;refine hK.out _ _ ?_ (fun hHeld=>?_)
   ·exact za MK _ mm.blk
   clear hK K_
   try simp only [Act.put,kBs]
   have bA:Below w1.heap.size w1 (w1.alloc (.cells #[.bool false, .string ⟨#[]⟩, .int .i64 0, .string ⟨#[]⟩, .int .i64 0, .int .i64 0, .bool false, .bool false, .bool false, .bool false] 246)):=bE0;have FA:Hid (Fin w (w1.alloc (.cells #[.bool false, .string ⟨#[]⟩, .int .i64 0, .string ⟨#[]⟩, .int .i64 0, .int .i64 0, .bool false, .bool false, .bool false, .bool false] 246)) Q B lo hi p x g n cap vs bl bh #[zi8 x, .bool a0, .bool a1, .bool a2, .bool a3] #[.bool false, .string ⟨#[]⟩, .int .i64 0, .string ⟨#[]⟩, .int .i64 0, .int .i64 0, .bool false, .bool false, .bool false, .bool false] [v0,v1,v2,v3] w1.heap.size):=hide ⟨((Mem.Band.of_below bD0).trans bb).trans (Mem.Band.of_below bA),mm.alloc (za HQ) bA,(bb.blk RD (.inr hhi)).call bA,Mem.Blk.new _ _ _,Nat.lt_of_lt_of_le RD.lt bb.size⟩;refine RN 10 fun K_ hK=>?_;go_simp
   refine hK.out _ _ ?_ (fun hHeld=>?_)
   ·exact za MK _ (za FA).mid.blk
   clear hK K_
   try simp only [Act.put,kBs]
   clear bb mm bA;generalize w1.alloc (.cells #[.bool false, .string ⟨#[]⟩, .int .i64 0, .string ⟨#[]⟩, .int .i64 0, .int .i64 0, .bool false, .bool false, .bool false, .bool false] 246)=w2 at FA hHeld ⊢;generalize w1.heap.size=X at FA ⊢;have s0:=((za FA).seen).cell 0;have fs0:=((za FA).seen).fr 0;have s1:=((za FA).seen).cell 1;have fs1:=((za FA).seen).fr 1;have s2:=((za FA).seen).cell 2;have fs2:=((za FA).seen).fr 2;have s3:=((za FA).seen).cell 3;have fs3:=((za FA).seen).fr 3;have s4:=((za FA).seen).cell 4;have fs4:=((za FA).seen).fr 4;have s5:=((za FA).seen).cell 5;have fs5:=((za FA).seen).fr 5;have s6:=((za FA).seen).cell 6;have fs6:=((za FA).seen).fr 6;have s7:=((za FA).seen).cell 7;have fs7:=((za FA).seen).fr 7;have s8:=((za FA).seen).cell 8;have fs8:=((za FA).seen).fr 8;have s9:=((za FA).seen).cell 9;have fs9:=((za FA).seen).fr 9
   simp only [kB3,kB4,kB5,kGs] at s0 s1 s2 s3 s4 s5 s6 s7 s8 s9;refine RN 11 fun K_ hK=>?_;go_simp
   clear s0 fs0 s1 fs1 s2 fs2 s3 fs3 s4 fs4 s5 fs5 s6 fs6 s7 fs7 s8 fs8 s9 fs9;have FB:Hid (Fin w ((((((((((w2.setCell ⟨X,0,none⟩ (.bool ut)).setCell ⟨X,1,none⟩ (.string up)).setCell ⟨X,2,none⟩ (.int .i64 uk)).setCell ⟨X,3,none⟩ (.string ud)).setCell ⟨X,4,none⟩ (.int .i64 un)).setCell ⟨X,5,none⟩ (.int .i64 um)).setCell ⟨X,6,none⟩ (.bool v0)).setCell ⟨X,7,none⟩ (.bool v1)).setCell ⟨X,8,none⟩ (.bool v2)).setCell ⟨X,9,none⟩ (.bool v3)) Q B lo hi p x g n cap vs bl bh #[zi8 x, .bool a0, .bool a1, .bool a2, .bool a3] #[.bool ut, .string up, .int .i64 uk, .string ud, .int .i64 un, .int .i64 um, .bool v0, .bool v1, .bool v2, .bool v3] [v0,v1,v2,v3] X):=hide (Fin.put (za FA) hhi hpn.2 (za HQ) ut up uk ud un um v0 v1 v2 v3);clear FA;refine hK.out _ _ ?_ (fun hHeld=>?_)
   ·exact za MK _ (za FB).mid.blk
   clear hK K_
   try simp only [Act.put,kBs]
   refine wpAnyH_done (by kernel_rfl) ?_ _;refine ⟨rfl,rfl,X,?_,za FB⟩;simp only [kB3,kB4,kB5]
  ·go_simp
   have bA:Below D0.heap.size D0 (D0.alloc (.cells #[.bool false, .string ⟨#[]⟩, .int .i64 0, .string ⟨#[]⟩, .int .i64 0, .int .i64 0, .bool false, .bool false, .bool false, .bool false] 246)):=bE0;have VA:=Mem.Blk.new D0 #[.bool false, .string ⟨#[]⟩, .int .i64 0, .string ⟨#[]⟩, .int .i64 0, .int .i64 0, .bool false, .bool false, .bool false, .bool false] 246;have hlt:=RD.lt;have hDs:=bD0.size;refine hK.out _ _ ?_ (fun hHeld=>?_)
   ·exact za MK _ (PD.call bA)
   clear hK K_
   try simp only [Act.put,kBs]
   have RA:=RD.call bA;have bE:=bD0.trans (bA.mono bD0.size);clear bD0 bA RD PD;generalize D0.alloc (.cells #[.bool false, .string ⟨#[]⟩, .int .i64 0, .string ⟨#[]⟩, .int .i64 0, .int .i64 0, .bool false, .bool false, .bool false, .bool false] 246)=w1 at VA hHeld RA bE ⊢;generalize D0.heap.size=X at VA hlt hDs ⊢;clear hHeld;refine RN 9 fun K_ hK=>?_;go_simp
   refine (za HD w1 bE).mono ?_;rintro e w2 ⟨rfl,bb,mm⟩;refine hK.out _ _ ?_ (fun hHeld=>?_)
   ·exact za MK _ mm.blk
   clear hK K_
   try simp only [Act.put,kBs]
   have FA:Hid (Fin w w2 Q B lo hi p x g n cap vs bl bh #[zi8 x, .bool a0, .bool a1, .bool a2, .bool a3] #[.bool false, .string ⟨#[]⟩, .int .i64 0, .string ⟨#[]⟩, .int .i64 0, .int .i64 0, .bool false, .bool false, .bool false, .bool false] [v0,v1,v2,v3] X):=hide ⟨(Mem.Band.of_below bE).trans bb,mm,bb.blk RA (.inr hhi),bb.blk VA (.inr (by omega)),hlt⟩;clear bb mm RA VA bE;have s0:=((za FA).seen).cell 0;have fs0:=((za FA).seen).fr 0;have s1:=((za FA).seen).cell 1;have fs1:=((za FA).seen).fr 1;have s2:=((za FA).seen).cell 2;have fs2:=((za FA).seen).fr 2;have s3:=((za FA).seen).cell 3;have fs3:=((za FA).seen).fr 3;have s4:=((za FA).seen).cell 4;have fs4:=((za FA).seen).fr 4;have s5:=((za FA).seen).cell 5;have fs5:=((za FA).seen).fr 5;have s6:=((za FA).seen).cell 6;have fs6:=((za FA).seen).fr 6;have s7:=((za FA).seen).cell 7;have fs7:=((za FA).seen).fr 7;have s8:=((za FA).seen).cell 8
   have fs8:=((za FA).seen).fr 8;have s9:=((za FA).seen).cell 9;have fs9:=((za FA).seen).fr 9;simp only [kB3,kB4,kB5,kGs] at s0 s1 s2 s3 s4 s5 s6 s7 s8 s9;refine RN 11 fun K_ hK=>?_;go_simp
   clear s0 fs0 s1 fs1 s2 fs2 s3 fs3 s4 fs4 s5 fs5 s6 fs6 s7 fs7 s8 fs8 s9 fs9;have FB:Hid (Fin w ((((((((((w2.setCell ⟨X,0,none⟩ (.bool ut)).setCell ⟨X,1,none⟩ (.string up)).setCell ⟨X,2,none⟩ (.int .i64 uk)).setCell ⟨X,3,none⟩ (.string ud)).setCell ⟨X,4,none⟩ (.int .i64 un)).setCell ⟨X,5,none⟩ (.int .i64 um)).setCell ⟨X,6,none⟩ (.bool v0)).setCell ⟨X,7,none⟩ (.bool v1)).setCell ⟨X,8,none⟩ (.bool v2)).setCell ⟨X,9,none⟩ (.bool v3)) Q B lo hi p x g n cap vs bl bh #[zi8 x, .bool a0, .bool a1, .bool a2, .bool a3] #[.bool ut, .string up, .int .i64 uk, .string ud, .int .i64 un, .int .i64 um, .bool v0, .bool v1, .bool v2, .bool v3] [v0,v1,v2,v3] X):=hide (Fin.put (za FA) hhi hpn.2 (za HQ) ut up uk ud un um v0 v1 v2 v3);clear FA;refine hK.out _ _ ?_ (fun hHeld=>?_)
   ·exact za MK _ (za FB).mid.blk
   clear hK K_
   try simp only [Act.put,kBs]
   refine wpAnyH_done (by kernel_rfl) ?_ _;refine ⟨rfl,rfl,X,?_,za FB⟩;simp only [kB3,kB4,kB5]
 ·rintro T' W ⟨X,hT,HF⟩;simp only [kB3,kB4,kB5] at hT;subst hT;have FA:=hide HF;clear HF P0 R0 b0 MK HD;have s0:=((za FA).seen).cell 0;have s1:=((za FA).seen).cell 1;have s2:=((za FA).seen).cell 2;have s3:=((za FA).seen).cell 3;have s4:=((za FA).seen).cell 4;have s5:=((za FA).seen).cell 5;have s6:=((za FA).seen).cell 6;have s7:=((za FA).seen).cell 7;have s8:=((za FA).seen).cell 8;have s9:=((za FA).seen).cell 9;simp only [kB3,kB4,kB5,kGs] at s0 s1 s2 s3 s4 s5 s6 s7 s8 s9;have p0:=((za FA).mid.blk).cell 0;have fp0:=((za FA).mid.blk).fr 0;have p1:=((za FA).mid.blk).cell 1;have fp1:=((za FA).mid.blk).fr 1;have p2:=((za FA).mid.blk).cell 2;have fp2:=((za FA).mid.blk).fr 2;have p3:=((za FA).mid.blk).cell 3;have fp3:=((za FA).mid.blk).fr 3;have p4:=((za FA).mid.blk).cell 4
  have fp4:=((za FA).mid.blk).fr 4;simp only [kB3,kB4,kB5,kGs] at p0 p1 p2 p3 p4;have G2:W.grownBy ((((W.setCell ⟨p,1,none⟩ (.bool v0)).setCell ⟨p,2,none⟩ (.bool v1)).setCell ⟨p,3,none⟩ (.bool v2)).setCell ⟨p,4,none⟩ (.bool v3)) (some p):=za2 (za2 (za2 (za2 (Mem.zc1 (Below.refl _ W) (some p)) 1 (.bool v0)) 2 (.bool v1)) 3 (.bool v2)) 4 (.bool v3);have K2:=(((((za FA).mid.blk).put 1 (.bool v0)).put 2 (.bool v1)).put 3 (.bool v2)).put 4 (.bool v3);simp only [kB3,kB4,kB5] at K2;have hX:=(za FA).far;have C2:=hide (Mid.co (za FA).mid (za HQ) hpn hpx hpg hfp G2 K2 rfl);have S2:=hide ((za FA).seen.grown G2 (fun e=>by have :=Option.some.inj e;omega));have R2:=hide ((za FA).res.grown G2 (fun e=>by have :=Option.some.inj e;omega));have B2:=hide ((za FA).bel.trans (Mem.Band.zu4 G2 hpn.1 hpn.2))
  clear G2 K2;go_upto_region 3 with fail
  clear s0 s1 s2 s3 s4 s5 s6 s7 s8 s9 p0 fp0 p1 fp1 p2 fp2 p3 fp3 p4 fp4;generalize ((((W.setCell ⟨p,1,none⟩ (.bool v0)).setCell ⟨p,2,none⟩ (.bool v1)).setCell ⟨p,3,none⟩ (.bool v2)).setCell ⟨p,4,none⟩ (.bool v3))=W2 at C2 S2 R2 B2 ⊢;have s0:=((za S2)).cell 0;have s1:=((za S2)).cell 1;have s2:=((za S2)).cell 2;have s3:=((za S2)).cell 3;have s4:=((za S2)).cell 4;have s5:=((za S2)).cell 5;have s6:=((za S2)).cell 6;have s7:=((za S2)).cell 7;have s8:=((za S2)).cell 8;have s9:=((za S2)).cell 9;simp only [kB3,kB4,kB5,kGs] at s0 s1 s2 s3 s4 s5 s6 s7 s8 s9;have r0:=((za R2)).cell 0;have fr0:=((za R2)).fr 0;have r1:=((za R2)).cell 1;have fr1:=((za R2)).fr 1;have r2:=((za R2)).cell 2;have fr2:=((za R2)).fr 2;have r3:=((za R2)).cell 3;have fr3:=((za R2)).fr 3;have r4:=((za R2)).cell 4;have fr4:=((za R2)).fr 4
  simp only [kB3,kB4,kB5,kGs] at r0 r1 r2 r3 r4;go_region
  go_wp2
  refine bodyPost_ret (v:= .tuple #[.agg #[.string up, .int .i64 uk, .string ud, .int .i64 un, .int .i64 um], .bool ut]) (by simp [results,Tryz.results208,go_sem,r0,r1,r2,r3,r4]) rfl ⟨rfl,?_,?_⟩
  ·exact (((((za B2).call (bD _)).set (p:=⟨w.heap.size,0,none⟩) (Nat.le_refl _) _).set (p:=⟨w.heap.size,1,none⟩) (Nat.le_refl _) _).set (p:=⟨w.heap.size,2,none⟩) (Nat.le_refl _) _).set (p:=⟨w.heap.size,3,none⟩) (Nat.le_refl _) _ |>.set (p:=⟨w.heap.size,4,none⟩) (Nat.le_refl _) _
  ·refine (za C2).same (za HQ) (same_grown (X:=w.heap.size) ?_ (by omega) (by omega));exact za2 (za2 (za2 (za2 (za2 (Mem.zc1 (bD _) (some w.heap.size)) 0 _) 1 _) 2 _) 3 _) 4 _
end WWk
end Go.Proofs.YtgdjjncmocppeaaGreatDoor
