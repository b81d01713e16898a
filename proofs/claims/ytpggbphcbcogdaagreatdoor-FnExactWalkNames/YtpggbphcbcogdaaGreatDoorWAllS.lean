import Derived.Test.YtpggbphcbcogdaaGreatDoorTakeC
import Derived.Test.YtpggbphcbcogdaaGreatDoorKit
import Derived.Test.YtpggbphcbcogdaaGreatDoorMemBlk
import Derived.Test.YtpggbphcbcogdaaGreatDoorWOwnI
namespace Go.Proofs.YtpggbphcbcogdaaGreatDoor
open Go.RowKit
namespace zf3
set_option linter.unusedSimpArgs false in
set_option maxRecDepth 100000 in
set_option maxHeartbeats 1000000 in
theorem all_any (n:Nat) (w:World) (hn:n≤4):
  Calls Tryz.prog 48 #[.int .i64 (n:Int)] w fun e w'=>∃v,e= .returned v∧ownI w' w.heap.size v (List.range n)∧Below w.heap.size w w':=by
 obtain ⟨i0,hi,hz0,hz1,hz2⟩:=info_parts infoI;have A0:Hid (Below w.heap.size w (w.alloc (.cells #[] 3))∧ownI (w.alloc (.cells #[] 3)) w.heap.size (.slice (some ⟨w.heap.size,0,none⟩) 0 0) (List.range 0)):=⟨bE0,⟨rfl, .inr ⟨w.heap.size,0,#[],rfl,Nat.le_refl _,heap_alloc_new _ _,Nat.le_refl _,Nat.zero_le _,rfl,rfl⟩⟩⟩;go_enter Tryz.func48,Tryz.ntmps48
 go_wp2
 go_loopw [3,4] (fun v i wr=>∃k:Nat,k≤n∧i= .int .i64 (k:Int)∧Hid (Below w.heap.size w wr∧ownI wr w.heap.size v (List.range k))) (fun _ i _=>n - (intOf i).toNat)
 case atStart=>exact ⟨0,Nat.zero_le _,rfl,A0⟩
 case round=>
  obtain ⟨k,hk,rfl,HA⟩:=hrel;clear A0;by_cases hlt:k<n
  ·have y1:(k:Int)<(n:Int):=by omega
   have bA:Below wr.heap.size wr (wr.alloc (.cells #[.int .i64 (k:Int)] 3)):=bE0;have HR:=hide (zo6 (za HA).2 bA);have HQ:=hide (fun w2 h2=>Mem.ze0 (o:= .cells #[.int .i64 (k:Int)] 3) (w1:=w2) (za HA).1 (Nat.le_refl _) (za HA).2 h2);have HSB:=hide (za HA).1.size;unfold ownI at HR;rw [List.length_range] at HR;clear HA bA;go_wp2_with (at_builtin;refine wpList_append_own _ rfl _ _ 73 rfl w.heap.size 3 i0 (.int .i64 0) 1 8 Tryz.underlying73 hi hz0 hz1 hz2 rfl (by decide) _ _ _ rfl (za HR) ⟨wr.heap.size,0,none⟩ 1 1 [.int .i64 (k:Int)] rfl rfl (Mem.zd0 _ _ _) (fun u hu=>by simp at hu;subst hu;rfl) (by unfold maxLen;omega) (by omega) (by have :=za HSB;simp;omega) ?_)
   intro v' w2 own' hgrow _;have A2:Hid (Below w.heap.size w w2∧ownI w2 w.heap.size v' (List.range (k+1))):=⟨za HQ w2 hgrow,by rw [List.range_succ];exact zu9 (by rw [List.length_range];exact own')⟩;clear HR HQ own' hgrow HSB;go_wp2
   go_roundw
   case rel=>exact ⟨k+1,by omega,by go_num,A2⟩
   case measure=>simp [intOf];omega
  ·obtain rfl:k=n:=by omega
   have y1:¬ ((k:Int)<(k:Int)):=by omega
   go_wp2
   go_ret
   exact ⟨_,rfl,(za HA).2,(za HA).1⟩
end zf3
end Go.Proofs.YtpggbphcbcogdaaGreatDoor
