import Derived.Test.YtpggbphcbcogdaaGreatDoorTakeC
import Derived.Test.YtpggbphcbcogdaaGreatDoorKit
import Derived.Test.YtpggbphcbcogdaaGreatDoorPlainItem
import Derived.Test.YtpggbphcbcogdaaGreatDoorMemBlk
import Derived.Test.YtpggbphcbcogdaaGreatDoorMemNest
import Derived.Test.YtpggbphcbcogdaaGreatDoorProg
import Derived.WalkSpells
import Derived.Lib.OthersKept
import Derived.Laws.RangeAny
import Derived.Deep.Draws
import Derived.Deep.QuietTactic
import Derived.BigQuiet
import Derived.Deep.RegionHeld3
namespace Go.Proofs.YtpggbphcbcogdaaGreatDoor
open Go.RowKit
namespace zh4
theorem zt1 {w w':World} {N:Nat→Prop} {F:Pl.Fo} {b i:Nat} (h:Mem.rowF w N F b i) (bb:Below w.heap.size w w'):Mem.rowF w' N F b i:=Mem.rowF_mono (fun g hg hl=>⟨hg,Nat.lt_of_lt_of_le hl bb.size,bb.block g hl⟩) F b i h
set_option linter.unusedSimpArgs false in
set_option maxRecDepth 100000 in
set_option maxHeartbeats 1000000 in
theorem depth_any (N:Nat→Prop) (n:Nat) (hn:n≤1000):∀ (k:Pl.Fo) (q:Option Nat) (m:Int) (v:Value) (w:World),k.sz≤n→Mem.lay w N k v→
  Calls Tryz.prog 37 #[.agg #[.map q, .int .i64 m,v]] w fun e w'=>e= .returned (.int .i64 ((k.depth:Int)+1))∧Below w.heap.size w w':=by
 have base:∀ (q:Option Nat) (m:Int) (a:Option Addr) (cap:Nat) (w:World),Calls Tryz.prog 37 #[.agg #[.map q, .int .i64 m, .slice a 0 cap]] w fun e w'=>e= .returned (.int .i64 1)∧Below w.heap.size w w':=by
  intro q m a cap w;go_enter Tryz.func37,Tryz.ntmps37
  go_wp2
  go_loopw [3,9] (fun d i wr=>d= .int .i64 0∧i= .int .i64 0∧Below w.heap.size w wr) (fun _ _ _=>0)
  case atStart=>exact ⟨rfl,rfl,bE0⟩
  case round=>
   obtain ⟨rfl,rfl,hbel⟩:=hrel;go_wp2
   go_ret
   exact ⟨rfl,hbel⟩
 induction n with
 |zero=>
  intro k q m v w hs hl;obtain ⟨a,cap,rfl, -⟩:=hl;cases k with
  |nil=>exact base q m a cap w
  |cons a b=>simp [Pl.Fo.sz] at hs
 |succ n ih=>
  intro k q m v w hs hl;obtain ⟨a,cap,rfl,hrow⟩:=hl;cases k with
  |nil=>exact base q m a cap w
  |cons k0 m0=>
   rcases hrow with h|⟨g,rfl,hrow⟩
   ·cases h
   generalize hK:Pl.Fo.cons k0 m0=K at *;have hKl:=K.len_le;have hKd:=K.depth_le;have b0:Below w.heap.size w (w.alloc (.cells #[.map q, .int .i64 m, .slice (some ⟨g,0,none⟩) K.len cap] 62)):=bE0;have HI:=hide (ih (by omega));have R0:Hid (Mem.rowF (w.alloc (.cells #[.map q, .int .i64 m, .slice (some ⟨g,0,none⟩) K.len cap] 62)) N K g (0*3)):=hide (by simpa using zt1 hrow b0);clear hK ih hrow base;go_enter Tryz.func37,Tryz.ntmps37
   go_wp2
   go_loopw [3,9] (fun d i wr=>∃ (j dd:Nat) (F:Pl.Fo),d= .int .i64 (dd:Int)∧i= .int .i64 (j:Int)∧j+F.len=K.len∧max dd F.depth=K.depth∧F.sz≤n+1∧Below w.heap.size w wr∧Hid (Mem.rowF wr N F g (j*3))) (fun _ i _=>K.len - (intOf i).toNat)
   case atStart=>exact ⟨0,0,K,rfl,rfl,by omega,by omega,hs,b0,R0⟩
   case round=>
    obtain ⟨j,dd,F,rfl,rfl,hj,hmax,hsz,hbel,HR⟩:=hrel;clear R0 b0;cases F with
    |nil=>
     simp only [Pl.Fo.len,Pl.Fo.depth] at hj hmax;have u1:¬ (j:Int)<(K.len:Int):=by omega
     have hdd:dd=K.depth:=by omega
     subst hdd;go_wp2
     go_ret
     exact ⟨by show Ending.returned (.int .i64 (1+(K.depth:Int)))=_;rw [Int.add_comm],hbel⟩
    |cons k1 m1=>
     simp only [Pl.Fo.len,Pl.Fo.depth,Pl.Fo.sz] at hj hmax hsz;obtain ⟨⟨x,y,a1,cap1,c0,c1,c2,hg,hN,⟨q1,rfl⟩,⟨r1,rfl⟩,hsub⟩,hrest⟩:=za HR;have u1:(j:Int)<(K.len:Int):=by omega
     have u3:(0:Int)≤(j:Int):=by omega
     have bA:Below wr.heap.size wr (wr.alloc (.cells #[.map q1, .int .i64 r1, .slice a1 k1.len cap1] 62)):=bE0;have HL:Mem.lay wr N k1 (.slice a1 k1.len cap1):=⟨a1,cap1,rfl,hsub⟩;have hcall:=hide (za HI k1 q1 r1 _ _ (by omega) (Mem.lay_call HL bA));have HRR:=hide (zt1 hrest bA);have bw:=hbel.trans (bA.mono hbel.size);clear hsub hrest HL HR;go_wp2_with fail
     refine (za hcall).mono ?_;rintro e wX ⟨rfl,bX⟩;have bw2:=bw.trans (bX.mono bw.size);have HR2:=hide (zt1 (za HRR) bX);rw [show j*3+3=(j+1)*3 by omega] at HR2;clear hcall HRR bX bw hbel c0 c1 c2 bA;by_cases hcmp:(dd:Int)≤(k1.depth:Int)+1
     ·have e1:max (dd:Int) ((k1.depth:Int)+1)=(k1.depth:Int)+1:=by omega
      go_wp2
      go_roundw
      case rel=>exact ⟨j+1,k1.depth+1,m1,by go_num,by go_num,by omega,by omega,by omega,bw2,HR2⟩
      case measure=>simp [intOf];omega
     ·have e1:max (dd:Int) ((k1.depth:Int)+1)=(dd:Int):=by omega
      go_wp2
      go_roundw
      case rel=>exact ⟨j+1,dd,m1,by go_num,by go_num,by omega,by omega,by omega,bw2,HR2⟩
      case measure=>simp [intOf];omega
end zh4
end Go.Proofs.YtpggbphcbcogdaaGreatDoor
