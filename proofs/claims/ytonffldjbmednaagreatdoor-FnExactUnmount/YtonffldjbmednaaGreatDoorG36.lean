/- Several texts of one claim in one file: WSpI20, MapDel, WSpI17. -/
import Derived.Test.YtonffldjbmednaaGreatDoorG34
import Derived.Test.YtonffldjbmednaaGreatDoorG35
import Derived.Test.YtonffldjbmednaaGreatDoorG03
import Derived.Test.YtonffldjbmednaaGreatDoorG07
import Derived.Maps.Ext
import Derived.Maps.Keyed
import Derived.ChangeMaps
import Derived.Test.YtonffldjbmednaaGreatDoorG09
namespace Go.Proofs.YtonffldjbmednaaGreatDoor
section
open Go.RowKit Go.Maps
namespace WSpI
theorem empty_no {s:ByteArray} (h:s≠⟨#[]⟩):s.toList.isEmpty=false∧(s.toList==[])=false:=
 ⟨by rw [Pl.zd2];simp;exact fun e=>h (Pl.zh4 e),by rw [Pl.list_is];simp;exact fun e=>h (Pl.zh4 e)⟩
theorem empty_yes {s:ByteArray} (h:s=⟨#[]⟩):s.toList.isEmpty=true∧(s.toList==[])=true:=by
 subst h;exact ⟨by rw [Pl.zd2];rfl,by rw [Pl.list_is];rfl⟩
structure Fm (w W:World) (O Y A B:Array Value) (X:Nat):Prop where
 bel:Below w.heap.size w W
 o:Mem.Blk W (w.heap.size+1) O 59
 y:Mem.Blk W (w.heap.size+2) Y 50
 a:Mem.Blk W X A 59
 b:Mem.Blk W (X+1) B 61
 x:w.heap.size+2<X
theorem Fm.call {w W W':World} {O Y A B:Array Value} {X:Nat} (h:Fm w W O Y A B X) (b:Below W.heap.size W W'):Fm w W' O Y A B X:=⟨h.bel.trans (b.mono h.bel.size),h.o.call b,h.y.call b,h.a.call b,h.b.call b,h.x⟩
theorem Fm.p1 {w W:World} {O Y A B:Array Value} {X:Nat} (h:Fm w W O Y A B X) (k:Nat) (v:Value):Fm w (W.setCell ⟨w.heap.size+1,k,none⟩ v) (O.setIfInBounds k v) Y A B X:=
 ⟨h.bel.setCell (by show w.heap.size≤w.heap.size+1;omega) _,h.o.put k v,h.y.far _ _ (by show w.heap.size+2≠w.heap.size+1;omega),h.a.far _ _ (by have :=h.x;show X≠w.heap.size+1;omega),h.b.far _ _ (by have :=h.x;show X+1≠w.heap.size+1;omega),h.x⟩
theorem Fm.p2 {w W:World} {O Y A B:Array Value} {X:Nat} (h:Fm w W O Y A B X) (k:Nat) (v:Value):Fm w (W.setCell ⟨w.heap.size+2,k,none⟩ v) O (Y.setIfInBounds k v) A B X:=
 ⟨h.bel.setCell (by show w.heap.size≤w.heap.size+2;omega) _,h.o.far _ _ (by show w.heap.size+1≠w.heap.size+2;omega),h.y.put k v,h.a.far _ _ (by have :=h.x;show X≠w.heap.size+2;omega),h.b.far _ _ (by have :=h.x;show X+1≠w.heap.size+2;omega),h.x⟩
def Mounted (w w':World) (s:Pl.Sp) (p:ByteArray) (R:Bool) (m:Pl.Mn) (e:Ending):Prop:=
 (Pl.whyD p R s.M=0∧∃q E sa sc ta tc,e= .returned (.tuple #[.agg #[.map (some q), .slice sa s.M.length sc, .slice ta s.H.length tc, .int .i64 s.next], .agg #[.string m.p, .int .i64 m.i, .bool m.z], .int .i64 0])∧SpO.SpV w.heap.size w' s q E sa sc ta tc)∨
 (Pl.whyD p R s.M≠0∧∃q sa sl sc ta tl tc n P i z,e= .returned (.tuple #[.agg #[.map q, .slice sa sl sc, .slice ta tl tc, .int .i64 n], .agg #[.string P, .int .i64 i, .bool z], .int .i64 (Pl.whyD p R s.M)]))
set_option linter.unusedSimpArgs false in
set_option maxRecDepth 100000 in
set_option maxHeartbeats 4000000 in
theorem mount_any (s:Pl.Sp) (p:ByteArray) (w:World) (hp:p.size≤1048576) (hok:zb.OkS s 1048576) (hn:OkN s) (ha:OkA s) (hv:Mem.zc3 w s) (m:Pl.Mn) (hlm:Pl.leadI (Pl.uR p) s.M s.M.length=m)
  (r0 r1 r2 r3:TypeId) (x0 x1 x2 x3:Value) (hE:zl4.Errs4 w r0 r1 r2 r3 x0 x1 x2 x3):
  Calls Tryz.prog 46 #[.agg s.cs, .string p] w fun e w'=>Mounted w w' s p (Pl.ze9 s.next (s.N.map WSp.nr) s.M s.H Pl.wayB) m e∧Below w.heap.size w w':=by
 have HX:=hide (fun W (b:Below w.heap.size w W)=>at_any s p W hp hok hn ha (hv.call b) m hlm r0 r1 r2 r3 x0 x1 x2 x3 (hE.call b))
 have HRO:=hide (fun (h:Pl.whyI p (Pl.ze9 s.next (s.N.map WSp.nr) s.M s.H Pl.wayB)=0)=>by
  rcases Pl.whyI_cases p (Pl.ze9 s.next (s.N.map WSp.nr) s.M s.H Pl.wayB) with ⟨_,h1,h2⟩|h1|h1
  ·have h3:=Pl.rest_on h1 p h2;rw [hlm] at h3;exact (h3.1.trans h3.2:Pl.rest p m.p=⟨#[]⟩↔¬Pl.onI s.M p<0)
  ·rw [h1] at h;cases h
  ·rw [h1] at h;cases h)
 generalize HQ:Pl.ze9 s.next (s.N.map WSp.nr) s.M s.H Pl.wayB=RB at HX HRO ⊢;clear hok hn ha hv hE hlm HQ;obtain ⟨ia,ic,N,ma,mc,M,ha,hc,H,next⟩:=s;simp only at HX HRO ⊢;unfold Pl.Sp.cs Spotted at HX;unfold Pl.Sp.cs Mounted;simp only at HX ⊢;have HWD:Hid (Pl.whyD p RB M=if Pl.whyI p RB≠0 then Pl.whyI p RB else if p.size=0 then 2 else if Pl.onI M p<0 then 4 else 0):=hide rfl;generalize Pl.whyD p RB M=WD at HWD ⊢;generalize Pl.rest p m.p=RT at HX HRO ⊢
 have b0:Below w.heap.size w (((w.alloc (.cells #[Value.slice ia N.length ic,Value.slice ma M.length mc,Value.slice ha H.length hc,Value.int .i64 next] 32)).alloc (.cells #[Value.map none,Value.slice none 0 0,Value.slice none 0 0,Value.int .i64 0] 59)).alloc (.cells #[Value.string ⟨#[]⟩,Value.int .i64 0,Value.bool false] 50)):=(((Below.refl _ _).alloc (Nat.le_refl _) _).alloc (by simp) _).alloc (by simp;omega) _;have V0:=hide (((Mem.Blk.new w #[Value.slice ia N.length ic,Value.slice ma M.length mc,Value.slice ha H.length hc,Value.int .i64 next] 32).alloc (.cells #[Value.map none,Value.slice none 0 0,Value.slice none 0 0,Value.int .i64 0] 59)).alloc (.cells #[Value.string ⟨#[]⟩,Value.int .i64 0,Value.bool false] 50))
 have O0:=hide ((Mem.Blk.new (w.alloc (.cells #[Value.slice ia N.length ic,Value.slice ma M.length mc,Value.slice ha H.length hc,Value.int .i64 next] 32)) #[Value.map none,Value.slice none 0 0,Value.slice none 0 0,Value.int .i64 0] 59).alloc (.cells #[Value.string ⟨#[]⟩,Value.int .i64 0,Value.bool false] 50));have Y0:=hide (Mem.Blk.new ((w.alloc (.cells #[Value.slice ia N.length ic,Value.slice ma M.length mc,Value.slice ha H.length hc,Value.int .i64 next] 32)).alloc (.cells #[Value.map none,Value.slice none 0 0,Value.slice none 0 0,Value.int .i64 0] 59)) #[Value.string ⟨#[]⟩,Value.int .i64 0,Value.bool false] 50);have n1:(w.alloc (.cells #[Value.slice ia N.length ic,Value.slice ma M.length mc,Value.slice ha H.length hc,Value.int .i64 next] 32)).heap.size=w.heap.size+1:=by simp
 have n2:((w.alloc (.cells #[Value.slice ia N.length ic,Value.slice ma M.length mc,Value.slice ha H.length hc,Value.int .i64 next] 32)).alloc (.cells #[Value.map none,Value.slice none 0 0,Value.slice none 0 0,Value.int .i64 0] 59)).heap.size=w.heap.size+2:=by simp
 have n3:(((w.alloc (.cells #[Value.slice ia N.length ic,Value.slice ma M.length mc,Value.slice ha H.length hc,Value.int .i64 next] 32)).alloc (.cells #[Value.map none,Value.slice none 0 0,Value.slice none 0 0,Value.int .i64 0] 59)).alloc (.cells #[Value.string ⟨#[]⟩,Value.int .i64 0,Value.bool false] 50)).heap.size=w.heap.size+3:=by simp
 rw [n1] at O0;rw [n2] at Y0;clear n1 n2;have a0:=(za V0).cell 0;have a1:=(za V0).cell 1;have a2:=(za V0).cell 2;have a3:=(za V0).cell 3;simp only [kB3,kB4,kB5,kGs] at a0 a1 a2 a3;go_enter Tryz.func46,Tryz.ntmps46
 go_wp2_with fail
 generalize ((w.alloc (.cells #[Value.slice ia N.length ic,Value.slice ma M.length mc,Value.slice ha H.length hc,Value.int .i64 next] 32)).alloc (.cells #[Value.map none,Value.slice none 0 0,Value.slice none 0 0,Value.int .i64 0] 59)).alloc (.cells #[Value.string ⟨#[]⟩,Value.int .i64 0,Value.bool false] 50)=wA at b0 V0 O0 Y0 a0 a1 a2 a3 n3 ⊢;refine (za HX _ b0).mono ?_;rintro e w1 ⟨hS,bX⟩;have b1:=b0.trans (bX.mono b0.size);have O1:=hide ((za O0).call bX);have Y1:=hide ((za Y0).call bX);clear HX bX V0 a0 a1 a2 a3 b0 O0 Y0
 rcases hS with ⟨h0,q,E,sa,sc,ta,tc,rfl,HS⟩|⟨h0,rfl⟩
 ·have b2:Below w1.heap.size w1 ((w1.alloc (.cells #[Value.map (some q),Value.slice sa M.length sc,Value.slice ta H.length tc,Value.int .i64 next] 59)).alloc (.cells #[Value.string m.p,Value.int .i64 m.i,Value.bool m.z,Value.string RT] 61)):=((Below.refl _ _).alloc (Nat.le_refl _) _).alloc (by simp) _
  have F2:Hid (Fm w ((w1.alloc (.cells #[Value.map (some q),Value.slice sa M.length sc,Value.slice ta H.length tc,Value.int .i64 next] 59)).alloc (.cells #[Value.string m.p,Value.int .i64 m.i,Value.bool m.z,Value.string RT] 61)) #[Value.map none,Value.slice none 0 0,Value.slice none 0 0,Value.int .i64 0] #[Value.string ⟨#[]⟩,Value.int .i64 0,Value.bool false] #[Value.map (some q),Value.slice sa M.length sc,Value.slice ta H.length tc,Value.int .i64 next] #[Value.string m.p,Value.int .i64 m.i,Value.bool m.z,Value.string RT] w1.heap.size):=hide ⟨b1.trans (b2.mono b1.size),(za O1).call b2,(za Y1).call b2,(Mem.Blk.new w1 #[Value.map (some q),Value.slice sa M.length sc,Value.slice ta H.length tc,Value.int .i64 next] 59).alloc _,Mem.zl8 w1 _ _,(za Y1).lt⟩;have HS2:=hide (HS.call b2);have HRO:=hide (za HRO h0);have hWD:=za HWD
  rw [if_neg (by rw [h0];decide)] at hWD;replace HWD:=hide hWD;unfold spot;clear b2 HS O1 Y1 b1 h0 hWD;by_cases hz:p.size=0
  ·have HW2:Hid (WD=2):=hide (by rw [za HWD,if_pos hz]);obtain ⟨hpe,hpe2⟩:=empty_yes (s:=p) (by cases p with |mk d=>have :d.size=0:=hz;rw [Array.eq_empty_of_size_eq_zero this]);clear HWD HRO HS2 hz;go_upto_region 5 with fail
   generalize (w1.alloc (.cells #[Value.map (some q),Value.slice sa M.length sc,Value.slice ta H.length tc,Value.int .i64 next] 59)).alloc (.cells #[Value.string m.p,Value.int .i64 m.i,Value.bool m.z,Value.string RT] 61)=w2 at F2 ⊢;generalize w1.heap.size=X at F2 ⊢;clear hpe hpe2
   have MK:Hid (∀ (O Y:Array Value) W',Fm w W' O Y #[Value.map (some q),Value.slice sa M.length sc,Value.slice ta H.length tc,Value.int .i64 next] #[Value.string m.p,Value.int .i64 m.i,Value.bool m.z,Value.string RT] X→(W'.cell? ⟨X,0,none⟩=some (Value.map (some q))∧W'.cell? ⟨X,1,none⟩=some (Value.slice sa M.length sc)∧W'.cell? ⟨X,2,none⟩=some (Value.slice ta H.length tc)∧W'.cell? ⟨X,3,none⟩=some (Value.int .i64 next)∧W'.cell? ⟨X+1,0,none⟩=some (Value.string m.p)∧W'.cell? ⟨X+1,1,none⟩=some (Value.int .i64 m.i)∧W'.cell? ⟨X+1,2,none⟩=some (Value.bool m.z)∧W'.cell? ⟨X+1,3,none⟩=some (Value.string RT))):=fun O Y W' h=>⟨h.a.cell 0,h.a.cell 1,h.a.cell 2,h.a.cell 3,h.b.cell 0,h.b.cell 1,h.b.cell 2,h.b.cell 3⟩;go_wp2_with fail
   refine wp_region_held_drew (S:=fun W'=>W'.cell? ⟨X,0,none⟩=some (Value.map (some q))∧W'.cell? ⟨X,1,none⟩=some (Value.slice sa M.length sc)∧W'.cell? ⟨X,2,none⟩=some (Value.slice ta H.length tc)∧W'.cell? ⟨X,3,none⟩=some (Value.int .i64 next)∧W'.cell? ⟨X+1,0,none⟩=some (Value.string m.p)∧W'.cell? ⟨X+1,1,none⟩=some (Value.int .i64 m.i)∧W'.cell? ⟨X+1,2,none⟩=some (Value.bool m.z)∧W'.cell? ⟨X+1,3,none⟩=some (Value.string RT)) (by kernel_rfl) ?_ (fun hHeld=>?_)
   ·exact za MK _ _ _ ((za F2).call (bD _))
   have FD:=(za F2).call (bD w2);generalize w2.drew=D0 at hHeld FD ⊢;refine TB 0 ?_;refine TB 1 ?_;refine TB 2 ?_;refine RN 3 fun K hK=>?_;have d0:=(FD.o).cell 0;have fd0:=(FD.o).fr 0;have d1:=(FD.o).cell 1;have fd1:=(FD.o).fr 1;have d2:=(FD.o).cell 2;have fd2:=(FD.o).fr 2;have d3:=(FD.o).cell 3;have fd3:=(FD.o).fr 3;simp only [kB3,kB4,kB5,kGs] at d0 d1 d2 d3;go_simp
   clear d0 fd0 d1 fd1 d2 fd2 d3 fd3;replace FD:=((((FD.p1 0 (Value.map (some q))).p1 1 (Value.slice sa M.length sc)).p1 2 (Value.slice ta H.length tc)).p1 3 (Value.int .i64 next));refine hK.out _ _ ?_ (fun hHeld=>?_)
   ·exact za MK _ _ _ FD
   clear hK K
   try simp only [Act.put,kBs]
   refine RN 4 fun K hK=>?_;have d0:=(FD.y).cell 0;have fd0:=(FD.y).fr 0;have d1:=(FD.y).cell 1;have fd1:=(FD.y).fr 1;have d2:=(FD.y).cell 2;have fd2:=(FD.y).fr 2;simp only [kB3,kB4,kB5,kGs] at d0 d1 d2;go_simp
   clear d0 fd0 d1 fd1 d2 fd2;replace FD:=(((FD.p2 0 (Value.string m.p)).p2 1 (Value.int .i64 m.i)).p2 2 (Value.bool m.z));refine hK.out _ _ ?_ (fun hHeld=>?_)
   ·exact za MK _ _ _ FD
   clear hK K
   try simp only [Act.put,kBs]
   refine TB 5 ?_;refine wpAnyH_done (by kernel_rfl) ?_ _;clear hHeld;have d0:=(FD.o).cell 0;have d1:=(FD.o).cell 1;have d2:=(FD.o).cell 2;have d3:=(FD.o).cell 3;simp only [kB3,kB4,kB5,kGs] at d0 d1 d2 d3;have e0:=(FD.y).cell 0;have e1:=(FD.y).cell 1;have e2:=(FD.y).cell 2;simp only [kB3,kB4,kB5,kGs] at e0 e1 e2;go_wp2
   refine bodyPost_ret (v:= .tuple #[.agg #[Value.map (some q),Value.slice sa M.length sc,Value.slice ta H.length tc,Value.int .i64 next], .agg #[Value.string m.p,Value.int .i64 m.i,Value.bool m.z], .int .i64 2]) (by simp [results,Tryz.results46,go_sem,d0,d1,d2,d3,e0,e1,e2]) rfl ⟨.inr ⟨by rw [za HW2];decide,_,_,_,_,_,_,_,_,_,_,_,by rw [za HW2]⟩,FD.bel⟩
  obtain ⟨hpe,hpe2⟩:=empty_no (s:=p) (fun e=>by rw [e] at hz;exact hz rfl);by_cases hr:RT=⟨#[]⟩
  ·have HW0:Hid (WD=0):=hide (by rw [za HWD,if_neg hz,if_neg (show ¬Pl.onI M p<0 by have :=(za HRO).1 hr;omega)]);obtain ⟨hre,hre2⟩:=empty_yes hr;clear HWD HRO hz hr;have x3:=(za F2).b.cell 3;simp only [kGs] at x3;go_upto_region 8 with fail
   generalize (w1.alloc (.cells #[Value.map (some q),Value.slice sa M.length sc,Value.slice ta H.length tc,Value.int .i64 next] 59)).alloc (.cells #[Value.string m.p,Value.int .i64 m.i,Value.bool m.z,Value.string RT] 61)=w2 at F2 HS2 x3 ⊢;generalize w1.heap.size=X at F2 x3 ⊢;clear hpe hre x3 hpe2 hre2
   have MK:Hid (∀ (O Y:Array Value) W',Fm w W' O Y #[Value.map (some q),Value.slice sa M.length sc,Value.slice ta H.length tc,Value.int .i64 next] #[Value.string m.p,Value.int .i64 m.i,Value.bool m.z,Value.string RT] X→(W'.cell? ⟨X,0,none⟩=some (Value.map (some q))∧W'.cell? ⟨X,1,none⟩=some (Value.slice sa M.length sc)∧W'.cell? ⟨X,2,none⟩=some (Value.slice ta H.length tc)∧W'.cell? ⟨X,3,none⟩=some (Value.int .i64 next)∧W'.cell? ⟨X+1,0,none⟩=some (Value.string m.p)∧W'.cell? ⟨X+1,1,none⟩=some (Value.int .i64 m.i)∧W'.cell? ⟨X+1,2,none⟩=some (Value.bool m.z)∧W'.cell? ⟨X+1,3,none⟩=some (Value.string RT))):=fun O Y W' h=>⟨h.a.cell 0,h.a.cell 1,h.a.cell 2,h.a.cell 3,h.b.cell 0,h.b.cell 1,h.b.cell 2,h.b.cell 3⟩;go_wp2_with fail
   refine wp_region_held_drew (S:=fun W'=>W'.cell? ⟨X,0,none⟩=some (Value.map (some q))∧W'.cell? ⟨X,1,none⟩=some (Value.slice sa M.length sc)∧W'.cell? ⟨X,2,none⟩=some (Value.slice ta H.length tc)∧W'.cell? ⟨X,3,none⟩=some (Value.int .i64 next)∧W'.cell? ⟨X+1,0,none⟩=some (Value.string m.p)∧W'.cell? ⟨X+1,1,none⟩=some (Value.int .i64 m.i)∧W'.cell? ⟨X+1,2,none⟩=some (Value.bool m.z)∧W'.cell? ⟨X+1,3,none⟩=some (Value.string RT)) (by kernel_rfl) ?_ (fun hHeld=>?_)
   ·exact za MK _ _ _ ((za F2).call (bD _))
   have hq0:=(za HS2).lo;have HSF:=hide ((((((((((za HS2).call (bD w2)).far (Y:=w.heap.size+1) 0 (Value.map (some q)) (by omega)).far (Y:=w.heap.size+1) 1 (Value.slice sa M.length sc) (by omega)).far (Y:=w.heap.size+1) 2 (Value.slice ta H.length tc) (by omega)).far (Y:=w.heap.size+1) 3 (Value.int .i64 next) (by omega)).far (Y:=w.heap.size+2) 0 (Value.string m.p) (by omega)).far (Y:=w.heap.size+2) 1 (Value.int .i64 m.i) (by omega)).far (Y:=w.heap.size+2) 2 (Value.bool m.z) (by omega)));have FD:=(za F2).call (bD w2);generalize w2.drew=D0 at hHeld FD HSF ⊢;refine TB 0 ?_;refine TB 1 ?_;refine TB 2 ?_;refine RN 3 fun K hK=>?_;have d0:=(FD.o).cell 0;have fd0:=(FD.o).fr 0;have d1:=(FD.o).cell 1;have fd1:=(FD.o).fr 1;have d2:=(FD.o).cell 2;have fd2:=(FD.o).fr 2;have d3:=(FD.o).cell 3;have fd3:=(FD.o).fr 3
   simp only [kB3,kB4,kB5,kGs] at d0 d1 d2 d3;go_simp
   clear d0 fd0 d1 fd1 d2 fd2 d3 fd3;replace FD:=((((FD.p1 0 (Value.map (some q))).p1 1 (Value.slice sa M.length sc)).p1 2 (Value.slice ta H.length tc)).p1 3 (Value.int .i64 next));refine hK.out _ _ ?_ (fun hHeld=>?_)
   ·exact za MK _ _ _ FD
   clear hK K
   try simp only [Act.put,kBs]
   refine RN 4 fun K hK=>?_;have d0:=(FD.y).cell 0;have fd0:=(FD.y).fr 0;have d1:=(FD.y).cell 1;have fd1:=(FD.y).fr 1;have d2:=(FD.y).cell 2;have fd2:=(FD.y).fr 2;simp only [kB3,kB4,kB5,kGs] at d0 d1 d2;go_simp
   clear d0 fd0 d1 fd1 d2 fd2;replace FD:=(((FD.p2 0 (Value.string m.p)).p2 1 (Value.int .i64 m.i)).p2 2 (Value.bool m.z));refine hK.out _ _ ?_ (fun hHeld=>?_)
   ·exact za MK _ _ _ FD
   clear hK K
   try simp only [Act.put,kBs]
   refine TB 5 ?_;refine wpAnyH_done (by kernel_rfl) ?_ _;clear hHeld;have d0:=(FD.o).cell 0;have d1:=(FD.o).cell 1;have d2:=(FD.o).cell 2;have d3:=(FD.o).cell 3;simp only [kB3,kB4,kB5,kGs] at d0 d1 d2 d3;have e0:=(FD.y).cell 0;have e1:=(FD.y).cell 1;have e2:=(FD.y).cell 2;simp only [kB3,kB4,kB5,kGs] at e0 e1 e2;go_wp2
   refine bodyPost_ret (v:= .tuple #[.agg #[Value.map (some q),Value.slice sa M.length sc,Value.slice ta H.length tc,Value.int .i64 next], .agg #[Value.string m.p,Value.int .i64 m.i,Value.bool m.z], .int .i64 0]) (by simp [results,Tryz.results46,go_sem,d0,d1,d2,d3,e0,e1,e2]) rfl ⟨.inl ⟨by rw [za HW0],q,E,sa,sc,ta,tc,rfl,⟨by have :=(za HSF).lo;omega,(za HSF).ids,(za HSF).mo,(za HSF).nv,(za HSF).ne⟩⟩,FD.bel⟩
  ·have HW4:Hid (WD=4):=hide (by rw [za HWD,if_neg hz,if_pos (Classical.byContradiction fun h:¬Pl.onI M p<0=>hr ((za HRO).2 (by omega)))]);obtain ⟨hre,hre2⟩:=empty_no hr;clear HWD HRO hz hr HS2;have x3:=(za F2).b.cell 3;simp only [kGs] at x3;go_upto_region 7 with fail
   generalize (w1.alloc (.cells #[Value.map (some q),Value.slice sa M.length sc,Value.slice ta H.length tc,Value.int .i64 next] 59)).alloc (.cells #[Value.string m.p,Value.int .i64 m.i,Value.bool m.z,Value.string RT] 61)=w2 at F2 x3 ⊢;generalize w1.heap.size=X at F2 x3 ⊢;clear hpe hre x3 hpe2 hre2
   have MK:Hid (∀ (O Y:Array Value) W',Fm w W' O Y #[Value.map (some q),Value.slice sa M.length sc,Value.slice ta H.length tc,Value.int .i64 next] #[Value.string m.p,Value.int .i64 m.i,Value.bool m.z,Value.string RT] X→(W'.cell? ⟨X,0,none⟩=some (Value.map (some q))∧W'.cell? ⟨X,1,none⟩=some (Value.slice sa M.length sc)∧W'.cell? ⟨X,2,none⟩=some (Value.slice ta H.length tc)∧W'.cell? ⟨X,3,none⟩=some (Value.int .i64 next)∧W'.cell? ⟨X+1,0,none⟩=some (Value.string m.p)∧W'.cell? ⟨X+1,1,none⟩=some (Value.int .i64 m.i)∧W'.cell? ⟨X+1,2,none⟩=some (Value.bool m.z)∧W'.cell? ⟨X+1,3,none⟩=some (Value.string RT))):=fun O Y W' h=>⟨h.a.cell 0,h.a.cell 1,h.a.cell 2,h.a.cell 3,h.b.cell 0,h.b.cell 1,h.b.cell 2,h.b.cell 3⟩;go_wp2_with fail
   refine wp_region_held_drew (S:=fun W'=>W'.cell? ⟨X,0,none⟩=some (Value.map (some q))∧W'.cell? ⟨X,1,none⟩=some (Value.slice sa M.length sc)∧W'.cell? ⟨X,2,none⟩=some (Value.slice ta H.length tc)∧W'.cell? ⟨X,3,none⟩=some (Value.int .i64 next)∧W'.cell? ⟨X+1,0,none⟩=some (Value.string m.p)∧W'.cell? ⟨X+1,1,none⟩=some (Value.int .i64 m.i)∧W'.cell? ⟨X+1,2,none⟩=some (Value.bool m.z)∧W'.cell? ⟨X+1,3,none⟩=some (Value.string RT)) (by kernel_rfl) ?_ (fun hHeld=>?_)
   ·exact za MK _ _ _ ((za F2).call (bD _))
   have FD:=(za F2).call (bD w2);generalize w2.drew=D0 at hHeld FD ⊢;refine TB 0 ?_;refine TB 1 ?_;refine TB 2 ?_;refine RN 3 fun K hK=>?_;have d0:=(FD.o).cell 0;have fd0:=(FD.o).fr 0;have d1:=(FD.o).cell 1;have fd1:=(FD.o).fr 1;have d2:=(FD.o).cell 2;have fd2:=(FD.o).fr 2;have d3:=(FD.o).cell 3;have fd3:=(FD.o).fr 3;simp only [kB3,kB4,kB5,kGs] at d0 d1 d2 d3;go_simp
   clear d0 fd0 d1 fd1 d2 fd2 d3 fd3;replace FD:=((((FD.p1 0 (Value.map (some q))).p1 1 (Value.slice sa M.length sc)).p1 2 (Value.slice ta H.length tc)).p1 3 (Value.int .i64 next));refine hK.out _ _ ?_ (fun hHeld=>?_)
   ·exact za MK _ _ _ FD
   clear hK K
   try simp only [Act.put,kBs]
   refine RN 4 fun K hK=>?_;have d0:=(FD.y).cell 0;have fd0:=(FD.y).fr 0;have d1:=(FD.y).cell 1;have fd1:=(FD.y).fr 1;have d2:=(FD.y).cell 2;have fd2:=(FD.y).fr 2;simp only [kB3,kB4,kB5,kGs] at d0 d1 d2;go_simp
   clear d0 fd0 d1 fd1 d2 fd2;replace FD:=(((FD.p2 0 (Value.string m.p)).p2 1 (Value.int .i64 m.i)).p2 2 (Value.bool m.z));refine hK.out _ _ ?_ (fun hHeld=>?_)
   ·exact za MK _ _ _ FD
   clear hK K
   try simp only [Act.put,kBs]
   refine TB 5 ?_;refine wpAnyH_done (by kernel_rfl) ?_ _;clear hHeld;have d0:=(FD.o).cell 0;have d1:=(FD.o).cell 1;have d2:=(FD.o).cell 2;have d3:=(FD.o).cell 3;simp only [kB3,kB4,kB5,kGs] at d0 d1 d2 d3;have e0:=(FD.y).cell 0;have e1:=(FD.y).cell 1;have e2:=(FD.y).cell 2;simp only [kB3,kB4,kB5,kGs] at e0 e1 e2;go_wp2
   refine bodyPost_ret (v:= .tuple #[.agg #[Value.map (some q),Value.slice sa M.length sc,Value.slice ta H.length tc,Value.int .i64 next], .agg #[Value.string m.p,Value.int .i64 m.i,Value.bool m.z], .int .i64 4]) (by simp [results,Tryz.results46,go_sem,d0,d1,d2,d3,e0,e1,e2]) rfl ⟨.inr ⟨by rw [za HW4];decide,_,_,_,_,_,_,_,_,_,_,_,by rw [za HW4]⟩,FD.bel⟩
 ·have HWW:Hid (WD=Pl.whyI p RB):=hide (by rw [za HWD,if_pos h0]);have HNE:=hide h0;generalize Pl.whyI p RB=y at HWW HNE h0 ⊢;have z1:(y==0)=false:=by simpa using h0
  have z2:decide (y=0)=false:=by simpa using h0
  have b2:Below w1.heap.size w1 ((w1.alloc (.cells #[Value.map none,Value.slice none 0 0,Value.slice none 0 0,Value.int .i64 0] 59)).alloc (.cells #[Value.string ⟨#[]⟩,Value.int .i64 0,Value.bool false,Value.string ⟨#[]⟩] 61)):=((Below.refl _ _).alloc (Nat.le_refl _) _).alloc (by simp) _
  have F2:Hid (Fm w ((w1.alloc (.cells #[Value.map none,Value.slice none 0 0,Value.slice none 0 0,Value.int .i64 0] 59)).alloc (.cells #[Value.string ⟨#[]⟩,Value.int .i64 0,Value.bool false,Value.string ⟨#[]⟩] 61)) #[Value.map none,Value.slice none 0 0,Value.slice none 0 0,Value.int .i64 0] #[Value.string ⟨#[]⟩,Value.int .i64 0,Value.bool false] #[Value.map none,Value.slice none 0 0,Value.slice none 0 0,Value.int .i64 0] #[Value.string ⟨#[]⟩,Value.int .i64 0,Value.bool false,Value.string ⟨#[]⟩] w1.heap.size):=hide ⟨b1.trans (b2.mono b1.size),(za O1).call b2,(za Y1).call b2,(Mem.Blk.new w1 #[Value.map none,Value.slice none 0 0,Value.slice none 0 0,Value.int .i64 0] 59).alloc _,Mem.zl8 w1 _ _,(za Y1).lt⟩;clear b2 O1 Y1 b1 HWD HRO;go_upto_region 3 with fail
  generalize (w1.alloc (.cells #[Value.map none,Value.slice none 0 0,Value.slice none 0 0,Value.int .i64 0] 59)).alloc (.cells #[Value.string ⟨#[]⟩,Value.int .i64 0,Value.bool false,Value.string ⟨#[]⟩] 61)=w2 at F2 ⊢;generalize w1.heap.size=X at F2 ⊢;clear z1 z2 h0
  have MK:Hid (∀ (O Y:Array Value) W',Fm w W' O Y #[Value.map none,Value.slice none 0 0,Value.slice none 0 0,Value.int .i64 0] #[Value.string ⟨#[]⟩,Value.int .i64 0,Value.bool false,Value.string ⟨#[]⟩] X→(W'.cell? ⟨X,0,none⟩=some (Value.map none)∧W'.cell? ⟨X,1,none⟩=some (Value.slice none 0 0)∧W'.cell? ⟨X,2,none⟩=some (Value.slice none 0 0)∧W'.cell? ⟨X,3,none⟩=some (Value.int .i64 0)∧W'.cell? ⟨X+1,0,none⟩=some (Value.string ⟨#[]⟩)∧W'.cell? ⟨X+1,1,none⟩=some (Value.int .i64 0)∧W'.cell? ⟨X+1,2,none⟩=some (Value.bool false)∧W'.cell? ⟨X+1,3,none⟩=some (Value.string ⟨#[]⟩))):=fun O Y W' h=>⟨h.a.cell 0,h.a.cell 1,h.a.cell 2,h.a.cell 3,h.b.cell 0,h.b.cell 1,h.b.cell 2,h.b.cell 3⟩;go_wp2_with fail
  refine wp_region_held_drew (S:=fun W'=>W'.cell? ⟨X,0,none⟩=some (Value.map none)∧W'.cell? ⟨X,1,none⟩=some (Value.slice none 0 0)∧W'.cell? ⟨X,2,none⟩=some (Value.slice none 0 0)∧W'.cell? ⟨X,3,none⟩=some (Value.int .i64 0)∧W'.cell? ⟨X+1,0,none⟩=some (Value.string ⟨#[]⟩)∧W'.cell? ⟨X+1,1,none⟩=some (Value.int .i64 0)∧W'.cell? ⟨X+1,2,none⟩=some (Value.bool false)∧W'.cell? ⟨X+1,3,none⟩=some (Value.string ⟨#[]⟩)) (by kernel_rfl) ?_ (fun hHeld=>?_)
  ·exact za MK _ _ _ ((za F2).call (bD _))
  have FD:=(za F2).call (bD w2);generalize w2.drew=D0 at hHeld FD ⊢;refine TB 0 ?_;refine TB 1 ?_;refine TB 2 ?_;refine TB 3 ?_;refine RN 4 fun K hK=>?_;have d0:=(FD.o).cell 0;have fd0:=(FD.o).fr 0;have d1:=(FD.o).cell 1;have fd1:=(FD.o).fr 1;have d2:=(FD.o).cell 2;have fd2:=(FD.o).fr 2;have d3:=(FD.o).cell 3;have fd3:=(FD.o).fr 3;simp only [kB3,kB4,kB5,kGs] at d0 d1 d2 d3;go_simp
  clear d0 fd0 d1 fd1 d2 fd2 d3 fd3;replace FD:=((((FD.p1 0 (Value.map none)).p1 1 (Value.slice none 0 0)).p1 2 (Value.slice none 0 0)).p1 3 (Value.int .i64 0));refine hK.out _ _ ?_ (fun hHeld=>?_)
  ·exact za MK _ _ _ FD
  clear hK K
  try simp only [Act.put,kBs]
  refine RN 5 fun K hK=>?_;have d0:=(FD.y).cell 0;have fd0:=(FD.y).fr 0;have d1:=(FD.y).cell 1;have fd1:=(FD.y).fr 1;have d2:=(FD.y).cell 2;have fd2:=(FD.y).fr 2;simp only [kB3,kB4,kB5,kGs] at d0 d1 d2;go_simp
  clear d0 fd0 d1 fd1 d2 fd2;replace FD:=(((FD.p2 0 (Value.string ⟨#[]⟩)).p2 1 (Value.int .i64 0)).p2 2 (Value.bool false));refine hK.out _ _ ?_ (fun hHeld=>?_)
  ·exact za MK _ _ _ FD
  clear hK K
  try simp only [Act.put,kBs]
  refine TB 6 ?_;refine wpAnyH_done (by kernel_rfl) ?_ _;clear hHeld;have d0:=(FD.o).cell 0;have d1:=(FD.o).cell 1;have d2:=(FD.o).cell 2;have d3:=(FD.o).cell 3;simp only [kB3,kB4,kB5,kGs] at d0 d1 d2 d3;have e0:=(FD.y).cell 0;have e1:=(FD.y).cell 1;have e2:=(FD.y).cell 2;simp only [kB3,kB4,kB5,kGs] at e0 e1 e2;go_wp2
  refine bodyPost_ret (v:= .tuple #[.agg #[Value.map none,Value.slice none 0 0,Value.slice none 0 0,Value.int .i64 0], .agg #[Value.string ⟨#[]⟩,Value.int .i64 0,Value.bool false], .int .i64 y]) (by simp [results,Tryz.results46,go_sem,d0,d1,d2,d3,e0,e1,e2]) rfl ⟨.inr ⟨by rw [za HWW];exact za HNE,none,none,0,0,none,0,0,0,⟨#[]⟩,0,false,by rw [za HWW]⟩,FD.bel⟩
end WSpI
end
section
open Go.RowKit Go.Maps
namespace MapI
def Ik (k:Lit):Prop:=∃d,k=key d
theorem ik_one:OneKind Ik:=⟨fun h=>by obtain ⟨d,rfl⟩:=h;exact zp1 d,fun ha hb hne=>by
 obtain ⟨x,rfl⟩:=ha;obtain ⟨y,rfl⟩:=hb;have :x≠y:=fun e=>hne (by rw [e]);simp only [key,Lit.before,decide_eq_true_eq]
 omega⟩
def CanI (D:DataW Value):Prop:=∃es,D= .map es∧es.Pairwise (fun p q=>p.1.before q.1=true)∧∀p∈es,Ik p.1
theorem can_put {D:DataW Value} (h:CanI D) (d:Int) (v:Value):CanI (D.put (key d) (dat v)):=by
 obtain ⟨es,rfl,h1,h2⟩:=h;refine ⟨_,rfl,?_,fun x hx=>?_⟩
 ·refine insert_sorted ik_one (x:=(key d,dat v)) ⟨d,rfl⟩ _ (h1.filter _) (fun x hx=>h2 x (List.mem_filter.1 hx).1) (fun x hx=>?_);have :=(List.mem_filter.1 hx).2;intro e;rw [e,WideAt.sameKey_self (zp1 d)] at this;cases this
 ·rcases ChangeMaps.mem_insert_iff.1 hx with rfl |hx
  ·exact ⟨_,rfl⟩
  ·exact h2 x (List.mem_filter.1 hx).1
theorem can_fold:∀ (C:List (Int × Value)) (D:DataW Value),CanI D→CanI (C.foldl (fun D n=>D.put (key n.1) (dat n.2)) D):=by
 intro C
 induction C with
 |nil=>intro D h;exact h
 |cons n C ih=>intro D h;exact ih _ (can_put h n.1 n.2)
theorem zr9 (C:List (Int × Value)):CanI (mapOf C):=can_fold C (.map []) ⟨[],rfl,List.Pairwise.nil,fun _ h=>by cases h⟩
theorem CanI.canon {D:DataW Value} (h:CanI D):Canon D:=by
 obtain ⟨es,e,h1,h2⟩:=h;exact ⟨es,e,h1,fun p hp=>ik_one.key (h2 p hp)⟩
theorem CanI.ik {D:DataW Value} (h:CanI D) {k:Lit} (hk:Maps.has D k=true):Ik k:=by
 obtain ⟨es,rfl,h1,h2⟩:=h;obtain ⟨x,hx,hs⟩:=List.any_eq_true.1 hk;rw [←WideAt.sameKey_eq hs];exact h2 x hx
def kp (f:Int→Bool):Lit→Bool
 | .int _ d=>f d
 |_=>false
structure zl0 (f:Int→Bool) (D0 D:DataW Value) (left:Lit→Bool):Prop where
 h:∀k,Maps.has D k=(Maps.has D0 k&&(kp f k||left k))
 a:∀k z,Maps.has D k=true→D.atKey k z=D0.atKey k z
section
variable {f:Int→Bool} {D0 D:DataW Value} {left:Lit→Bool} {x:Int}
theorem zl0.start (f:Int→Bool) (D0:DataW Value):zl0 f D0 D0 (Maps.has D0):=⟨fun k=>by cases Maps.has D0 k <;> simp,fun _ _ _=>rfl⟩
theorem zl0.del (h:zl0 f D0 D left) (hx:f x=false):zl0 f D0 (D.del (key x)) (fun z=>left z&&!z.sameKey (key x)):=by
 refine ⟨fun k=>?_,fun k z hk=>?_⟩
 ·by_cases e:k=key x
  ·subst e;rw [has_del_same,WideAt.sameKey_self (zp1 x)];simp [kp,key,hx]
  ·rw [has_del_other e,h.h k,sameKey_ne e];simp
 ·by_cases e:k=key x
  ·subst e;rw [has_del_same] at hk;cases hk
  ·rw [has_del_other e] at hk;rw [atKey_del_other e,h.a k z hk]
theorem zl0.stay (h:zl0 f D0 D left) (hx:f x=true):zl0 f D0 D (fun z=>left z&&!z.sameKey (key x)):=by
 refine ⟨fun k=>?_,h.a⟩;rw [h.h k];by_cases e:k=key x
 ·subst e;simp [kp,key,hx]
 ·simp only [sameKey_ne e,Bool.not_false,Bool.and_true]
theorem filt_ids (E:List (Int × Pl.Nv)) (f:Int→Bool):(E.filter (fun x=>f x.1)).map (·.1)=(E.map (·.1)).filter f:=by
 induction E with
 |nil=>rfl
 |cons x E ih=>
  rw [List.map_cons,List.filter_cons,List.filter_cons];cases f x.1 <;> simp [ih]
theorem zl0.fin {E:List (Int × Pl.Nv)} (h:zl0 f (mapOf (Pl.vals E)) D left) (hl:∀k,left k=false) (hc:Canon D) (hE:E.Pairwise (fun a b=>a.1≠b.1)):D=mapOf (Pl.vals (E.filter (fun x=>f x.1))):=by
 have hE2:(E.filter (fun x=>f x.1)).Pairwise (fun a b=>a.1≠b.1):=hE.filter _;have hV:=Pl.zv6 hE;have hV2:=Pl.zv6 hE2
 have hids:∀d,d∈(Pl.vals (E.filter (fun x=>f x.1))).map (·.1)↔d∈(Pl.vals E).map (·.1)∧f d=true:=fun d=>by
  rw [Pl.zn6,Pl.zn6,filt_ids,List.mem_filter]
 refine ext hc (zr9 _).canon (fun k=>?_) (fun k z hk=>?_)
 ·rw [h.h k,hl k,Bool.or_false];by_cases hk:Maps.has (mapOf (Pl.vals E)) k=true
  ·obtain ⟨d,rfl⟩:=(zr9 _).ik hk;rw [(look hV d (.int .i64 0)).1,(look hV2 d (.int .i64 0)).1];simp only [kp,key];rw [Bool.eq_iff_iff,Bool.and_eq_true,decide_eq_true_eq,decide_eq_true_eq,hids]
  ·rw [Bool.not_eq_true] at hk;rw [hk,Bool.false_and];by_cases hk2:Maps.has (mapOf (Pl.vals (E.filter (fun x=>f x.1)))) k=true
   ·obtain ⟨d,rfl⟩:=(zr9 _).ik hk2;rw [(look hV2 d (.int .i64 0)).1,decide_eq_true_eq,hids] at hk2;rw [(look hV d (.int .i64 0)).1,decide_eq_false_iff_not] at hk;exact absurd hk2.1 hk
   ·rw [Bool.not_eq_true] at hk2;exact hk2.symm
 ·rw [h.a k z hk];have hk2:=hk;rw [h.h k,hl k,Bool.or_false,Bool.and_eq_true] at hk2;obtain ⟨d,rfl⟩:=(zr9 _).ik hk2.1;have h3:=hk2.1;rw [(look hV d (.int .i64 0)).1,decide_eq_true_eq] at h3;obtain ⟨n,hn,rfl⟩:=List.mem_map.1 h3;obtain ⟨y,hy,rfl⟩:=List.mem_map.1 hn;have hm:(y.1,y.2.val)∈Pl.vals (E.filter (fun x=>f x.1)):=List.mem_map.2 ⟨y,List.mem_filter.2 ⟨hy,hk2.2⟩,rfl⟩;rw [(zr6 hV hn).2,(zr6 hV2 hm).2]
end
end MapI
namespace Mem
theorem zn3 {w w':World} {q b k:Nat} {v:Value} {es:Array MapEntry} {cl:Nat} (hq:w.heap[q]? =some (.map es cl)) (g:w.grownBy w' (some q)) (h:w.cell? ⟨b,k,none⟩=some v) (hb:b<w.heap.size):w'.cell? ⟨b,k,none⟩=some v:=by
 have hne:b≠q:=fun e=>by
  subst e;simp [World.cell?,hq] at h
 rw [World.cell?_of_block (g.block b hb (fun e=>hne (Option.some.inj e)))];exact h
theorem mounts_off {w w':World} {q:Nat} {a:Option Addr} {L:List Pl.Mn} {es:Array MapEntry} {cl:Nat} (h:zb2 w a L) (hq:w.heap[q]? =some (.map es cl)) (g:w.grownBy w' (some q)):zb2 w' a L:=fun i x hi=>by
 obtain ⟨b,o,h1,h2,h3,h4,h5⟩:=h i x hi;exact ⟨b,o,h1,Nat.lt_of_lt_of_le h2 g.size,zn3 hq g h3 h2,zn3 hq g h4 h2,zn3 hq g h5 h2⟩
theorem hands_off {w w':World} {q:Nat} {a:Option Addr} {L:List Pl.Hn} {es:Array MapEntry} {cl:Nat} (h:zb9 w a L) (hq:w.heap[q]? =some (.map es cl)) (g:w.grownBy w' (some q)):zb9 w' a L:=fun i x hi=>by
 obtain ⟨b,o,h1,h2,h3,h4,h5⟩:=h i x hi;exact ⟨b,o,h1,Nat.lt_of_lt_of_le h2 g.size,zn3 hq g h3 h2,zn3 hq g h4 h2,zn3 hq g h5 h2⟩
end Mem
end
section
open Go.RowKit Go.Maps
namespace WSpI
theorem strike_off (left:Lit→Bool) (x:Int):(fun z:Lit=>(left z&&!z.sameKey (MapI.key x))&&!z.sameKey (MapI.key x))=fun z=>left z&&!z.sameKey (MapI.key x):=Maps.strike_twice left _
set_option linter.unusedSimpArgs false in
set_option maxRecDepth 100000 in
set_option maxHeartbeats 4000000 in
theorem drop_any (X q:Nat) (E:List (Int × Pl.Nv)) (n:Nat) (ma:Option Addr) (mc:Nat) (M:List Pl.Mn) (ha:Option Addr) (hc:Nat) (H:List Pl.Hn) (next :Int) (w:World) (hml:M.length≤1048576) (hhl:H.length≤1048576) (hm:Mem.zb2 w ma M) (hh:Mem.zb9 w ha H)
  (hX:Mem.Blk w X #[.map (some q), .slice ma M.length mc, .slice ha H.length hc, .int .i64 next] 59)
  (hE:E.Pairwise (fun a b=>a.1≠b.1)) (hi:∀d∈E.map (·.1),MapI.i64 d) (hown:w.ownsMap Tryz.prog 2 MapI.elem q n (MapI.mapOf (Pl.vals E))):
  Calls Tryz.prog 86 #[.pointer (some ⟨X,0,none⟩)] w fun e w'=>e= .returned (.tuple #[])∧w'.ownsMap Tryz.prog 2 MapI.elem q n (MapI.mapOf (Pl.vals (E.filter (fun x=>!decide (Pl.held M H x.1=0)))))∧w.grownBy w' (some q):=by
 obtain ⟨es,cl,hq, -⟩:=id hown
 have hXq:X≠q:=fun e=>by
  have h1:=hX.cell 0;subst e;simp [World.cell?,hq] at h1
 have HH:=hide (fun W (g:w.grownBy W (some q)) d=>zd9 q ma mc M ha hc H next d W hml hhl (Mem.mounts_off hm hq g) (Mem.hands_off hh hq g));have HX:=hide (fun W (g:w.grownBy W (some q))=>hX.grown g (fun e=>hXq (Option.some.inj e)));have hqw:q<w.heap.size:=hown.lt;have HO:=hide hown;have HED:=hide hE;have HENT:=hide (fun (p:Int) (c:DataW Value) (h:∀z,(MapI.mapOf (Pl.vals E)).atKey (MapI.key p) z=c)=>MapI.ent_in h);have HK:=hide (fun d (hd:d∈E.map (·.1))=>MapI.zk1 (hi d hd));have HF0:=hide (MapI.zl0.start (fun d=>!decide (Pl.held M H d=0)) (MapI.mapOf (Pl.vals E)));have HFIN:=hide (fun D left (h:MapI.zl0 (fun d=>!decide (Pl.held M H d=0)) (MapI.mapOf (Pl.vals E)) D left) (hl:∀k,left k=false) (hc:Canon D)=>h.fin hl hc (za HED));generalize (E.filter (fun x=>!decide (Pl.held M H x.1=0)))=EF at HFIN ⊢;have HIDS:=hide (Pl.zn6 E);rw [za HIDS] at HENT;clear hown hm hh hE hq hi HED HIDS
 have a0:=hX.cell 0;simp only [kGs] at a0;generalize MapI.mapOf (Pl.vals E)=D0 at HO HENT HF0 HFIN;generalize E.map (·.1)=ids at HENT HK;clear hX;go_enter Tryz.func86,Tryz.ntmps86
 go_wp2_with (first
  |(at_range;refine wpList_range_own _ rfl _ 57 rfl 2 121 MapI.law Tryz.underlying57 _ q n _ rfl (za HO) ?_;intro w0 hrg0 hg0 hs0)
  |go_in)
 go_frame
 have G0:=hide (hg0.but (some q));clear hg0 hs0 HO a0
 go_loopw [2] (fun v wr=>∃ (D:DataW Value) (left:Lit→Bool) (cnt:Nat),wr.ranges Tryz.prog 2 MapI.elem q w.heap.size n D left cnt∧Hid (MapI.zl0 (fun d=>!decide (Pl.held M H d=0)) D0 D left)∧Hid (w.grownBy wr (some q)))
  (fun _ wr=>wr.rangeLeft q w.heap.size)
 case atStart=>exact ⟨_,_,_,hrg0,HF0,G0⟩
 case round=>
  obtain ⟨D,left,cnt,hrg,HD,HG⟩:=hrel;clear hrg0 HF0 G0
  go_wp2_with (first
   |(at_next;refine wpList_next_ranges _ rfl _ rfl 2 MapI.law MapI.elem (Value.int .i64) (fun v:Value=>v) (fun key kl hk=>by obtain ⟨x,hx,_⟩:=Maps.keyOf_int_inv Tryz.underlying2 hk;exact ⟨x,hx⟩) (fun v y hv=>⟨v,rfl⟩) q w.heap.size n _ _ _ rfl hrg ?_ ?_)
   |go_in)
  ·intro hc0 hl0;have HE:=hide (za HFIN D left (za HD) hl0 (hrg.owns.canon MapI.law));have HO:=hide hrg.owns;clear HD hrg hc0 hl0 HENT;go_wp2
   go_end0
   exact ⟨rfl,by rw [←za HE];exact za HO,za HG⟩
  ·intro x c kl yd yp w1 cnt1 hkey hlk hR hat hrg1 hlt hg1 hs1 hen;have ek:kl=MapI.key x:=by obtain ⟨x',hx,hk,_⟩:=Maps.keyOf_int_inv Tryz.underlying2 hkey;cases hx;exact hk
   subst ek;have G1:=(za HG).andThen hg1 (fun j hj=>by cases hj;exact .inl (Nat.le_refl _));have HC:=hide (fun W (b:Below w1.heap.size w1 W)=>za HH _ (G1.andThen (Mem.zb8 b none) (fun j hj=>by cases hj)) x);have V1:=za HX _ G1;have a0:=V1.cell 0;have a1:=V1.cell 1;have a2:=V1.cell 2;have a3:=V1.cell 3;simp only [kGs] at a0 a1 a2 a3;have HRG1:=hide hrg1;have HLE:=hide (hrg.left_eq);have HG1:=hide G1;have HKY:=hide hkey;clear hat hR hkey hlk hg1 hs1 hrg1 hrg V1 HG G1;go_wp2_with fail
   refine (za HC _ (Below.refl _ _)).mono ?_;rintro e w6 ⟨rfl,bX⟩;have HG6:=hide ((za HG1).andThen (Mem.zb8 bX none) (fun j hj=>by cases hj));have HR6:=hide ((za HRG1).kept (Mem.zb8 bX none) (by simp) (by simp));clear HC HG1 bX a0 a1 a2 a3 HRG1 hen;by_cases h0:Pl.held M H x=0
   ·have h1:(Pl.held M H x==0)=true:=by simpa using h0
    have HD2:=hide ((za HD).del (x:=x) (by simp [h0]));generalize Pl.held M H x=hx at h1 ⊢;have a0:=(za HX _ (za HG6)).cell 0;simp only [kGs] at a0;clear h0 HD
    go_wp2_with (first
     |(at_delete;refine wpList_delete_ranges _ rfl _ _ 57 2 rfl 121 MapI.law Tryz.underlying57 _ q w.heap.size n _ _ _ rfl (za HR6) _ _ rfl (za HKY) ?_;intro w2 cnt2 hrg2 hle hturn;go_frame)
     |go_in)
    rw [strike_off] at hrg2;go_roundw
    case rel=>exact ⟨_,_,cnt2,hrg2,HD2,hide ((za HG6).andThen hturn.grown (fun j hj=> .inr hj))⟩
    case measure=>rw [hrg2.left_eq,za HLE];omega
   ·have h1:(Pl.held M H x==0)=false:=by simpa using h0
    have HD2:=hide ((za HD).stay (x:=x) (by simp [h0]));generalize Pl.held M H x=hx at h1 ⊢;clear h0 HD;go_wp2
    go_roundw
    case rel=>exact ⟨_,_,cnt1,za HR6,HD2,HG6⟩
    case measure=>rw [(za HR6).left_eq,za HLE];exact hlt
end WSpI
end
end Go.Proofs.YtonffldjbmednaaGreatDoor
