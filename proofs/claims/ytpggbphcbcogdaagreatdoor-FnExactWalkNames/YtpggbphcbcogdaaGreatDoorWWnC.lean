import Derived.Test.YtpggbphcbcogdaaGreatDoorWWnQ
import Derived.Test.YtpggbphcbcogdaaGreatDoorLayStr
import Derived.Lib.SlicesCompact
import Derived.Sort.Walk0
import Derived.Sort.OwnSorted
set_option linter.unusedSimpArgs false
namespace Go.Proofs.YtpggbphcbcogdaaGreatDoor
open Go.RowKit Go.Shelf Go.Maps Go.Sort
namespace Rng
def bl (ys:List ByteArray):List (List UInt8):=ys.map (fun t=>t.data.toList)
theorem bl_enc (ys:List ByteArray):(bl ys).map encStr=ys.map Value.string:=by
 rw [bl,List.map_map];refine List.map_congr_left (fun t _=>?_);show Value.string ⟨t.data.toList.toArray⟩=_;rw [Array.toArray_toList]
set_option maxRecDepth 100000 in
set_option maxHeartbeats 4000000 in
theorem collect_names (w0:World) (L:List Pl.Nd) (K:Pl.Fx) (qm:Nat) (a:Option Addr) (cap:Nat) (q:ByteArray) (nb pb:Nat) (w:World) (h0:w0.heap.size≤w.heap.size)
  (hx:(Pl.Fx.cons L K .nil).okX) (hm:Mem.ownM w0 qm L) (hl:Mem.layX w0 (fun j=>j<w0.heap.size) K (.slice a K.len cap)) (hk:Keep w0 w) (hnb:Mem.Blk w nb #[.map (some qm), .int .i64 (K.len:Int), .slice a K.len cap] 62) (hpb:Mem.Blk w pb #[.string q] 9) (h12:(Pl.za7 (.cons L K .nil)).length≤12):
  Calls Tryz.prog 73 #[.func (.func 57) #[] #[.pointer (some ⟨nb,0,none⟩), .pointer (some ⟨pb,0,none⟩)]] w fun e w'=>∃v ys,e= .returned v∧(∀t,t∈ys↔∃M∈Pl.za7 (.cons L K .nil),t∈Pl.za6 q M)∧ys.length≤480∧zf0.Own w' w.heap.size v ys∧Below w.heap.size w w':=by
 have HA:=hide (append_names w0 L K qm a cap q nb pb w h0 hx hm hl hk hnb hpb h12);clear hx hm hl hk hnb hpb h12;go_enter Tryz.func73,Tryz.ntmps73
 go_wp2_with (go_at_call 88;refine (za HA).mono ?_;rintro e w1 ⟨v,ys,rfl,r1,r2,r3,r4⟩)
 go_ret
 exact ⟨v,ys,rfl,r1,r2,r3,r4⟩
set_option maxRecDepth 100000 in
set_option maxHeartbeats 4000000 in
theorem sorted_names (w0:World) (L:List Pl.Nd) (K:Pl.Fx) (qm:Nat) (a:Option Addr) (cap:Nat) (q:ByteArray) (nb pb:Nat) (w:World) (h0:w0.heap.size≤w.heap.size)
  (hx:(Pl.Fx.cons L K .nil).okX) (hm:Mem.ownM w0 qm L) (hl:Mem.layX w0 (fun j=>j<w0.heap.size) K (.slice a K.len cap)) (hk:Keep w0 w) (hnb:Mem.Blk w nb #[.map (some qm), .int .i64 (K.len:Int), .slice a K.len cap] 62) (hpb:Mem.Blk w pb #[.string q] 9) (h12:(Pl.za7 (.cons L K .nil)).length≤12):
  Calls Tryz.prog 56 #[.func (.func 57) #[] #[.pointer (some ⟨nb,0,none⟩), .pointer (some ⟨pb,0,none⟩)]] w fun e w'=>∃v ys,e= .returned v∧(∀t,t∈ys↔∃M∈Pl.za7 (.cons L K .nil),t∈Pl.za6 q M)∧ys.length≤480∧w'.ownsRow w.heap.size 9 1 v ys.length (((bl ys).mergeSort fun x y=>decide (x≤y)).map encStr)∧Below w.heap.size w w':=by
 have HA:=hide (collect_names w0 L K qm a cap q nb pb w h0 hx hm hl hk hnb hpb h12);clear hx hm hl hk hnb hpb h12;go_enter Tryz.func56,Tryz.ntmps56
 go_wp2_with (go_at_call 73;refine (za HA).mono ?_;rintro e w1 ⟨v,ys,rfl,r1,r2,r3,r4⟩)
 have hlen:(bl ys).length=ys.length:=by rw [bl,List.length_map]
 rcases r3.2 with ⟨rfl,hz⟩|⟨g,cp,cur,rfl,hbase,hgb,q1,q2,q3,q4⟩
 ·obtain rfl:ys=[]:=List.eq_nil_of_length_eq_zero hz;go_wp2_with (go_at_call 74;refine (AnyM.slices_Sort_string_none LayStr.sortL none 0 w1).mono ?_;rintro e w2 ⟨rfl,rfl⟩)
  go_ret
  exact ⟨_,[],rfl,r1,r2,⟨by simp [bl], .inl ⟨rfl,rfl⟩⟩,r4⟩
 ·have hH:Holds encStr w1 g 0 (bl ys).toArray:=holds_of_block hgb (by rw [bl_enc,hlen];simpa using q4);have hgl:g<w1.heap.size:=(Array.getElem?_eq_some_iff.1 hgb).1;have cS:=AnyM.slices_Sort_string LayStr.sortL g 0 cp (bl ys) w1 hH hgl (by omega);rw [hlen] at cS;have CS:=hide cS;clear cS hH;go_wp2_with (go_at_call 74;refine (za CS).mono ?_;rintro e w2 ⟨rfl,nn,os,rfl⟩)
  go_ret
  refine ⟨_,ys,rfl,r1,r2,?_,r4.grown (grownBy_sorted _) r4.size (fun j hj=>by cases hj;exact hbase)⟩;have h5:=ownsRow_sorted (w:=w1) (n:=nn) (os:=os) (ss:=bl ys) (ts:=(bl ys).mergeSort fun x y=>decide (x≤y)) (List.length_mergeSort _) hbase hgb (by omega) q2 q3;rw [hlen] at h5;exact h5
end Rng
end Go.Proofs.YtpggbphcbcogdaaGreatDoor
