/- Several texts of one claim in one file: LayKeys, WKeys. -/
import Derived.Shelf.SlIterI.Nil
import Derived.Shelf.SortM.Plain
import Derived.Shelf.SortM.SortNone
import Derived.Test.YtggadpalljhiaaaGreatDoorProg
import Derived.Test.YtggadpalljhiaaaGreatDoorG00
import Derived.Test.YtggadpalljhiaaaGreatDoorG07
namespace Go.Proofs.YtggadpalljhiaaaGreatDoor
section
open Go.Shelf
namespace zl9
def keysR:Go.Shelf.Ren:=⟨fun |7=>39|10=>64|n=>n,fun |0=>0|3=>64|4=>4|23=>70|26=>2|27=>93|28=>94|33=>125|n=>n,fun n=>n⟩
set_option maxRecDepth 100000 in
theorem keysL:SlLaysZI.n7 Tryz.prog keysR where
 mixed:=by kernel_rfl
 f7:=⟨ "maps.Keys[map[int64]loop.example/g00449/impl.nest[loop.example/g00449/impl.treeItem],int64,loop.example/g00449/impl.nest[loop.example/g00449/impl.treeItem]]",by decide,Tryz.func39.trans (congrArg some (by kernel_rfl))⟩
 f10:=⟨ "maps.Keys[map[int64]loop.example/g00449/impl.nest[loop.example/g00449/impl.treeItem],int64,loop.example/g00449/impl.nest[loop.example/g00449/impl.treeItem]]$1",by decide,Tryz.func64.trans (congrArg some (by kernel_rfl))⟩
 t0:=Tryz.underlying0
 a0:=Tryz.isAgg0
 z0:=Tryz.sizeOf0
 v0:=Tryz.zeroValue0
 t4:=Tryz.underlying4
 a4:=Tryz.isAgg4
 z4:=Tryz.sizeOf4
 v4:=Tryz.zeroValue4
 t23:=Tryz.underlying70
 a23:=Tryz.isAgg70
 z23:=Tryz.sizeOf70
 v23:=Tryz.zeroValue70
 t26:=Tryz.underlying2
 a26:=Tryz.isAgg2
 z26:=Tryz.sizeOf2
 v26:=Tryz.zeroValue2
 t27:=Tryz.underlying93
 a27:=Tryz.isAgg93
 z27:=Tryz.sizeOf93
 v27:=Tryz.zeroValue93
 t28:=Tryz.underlying94
 a28:=Tryz.isAgg94
 z28:=Tryz.sizeOf94
 v28:=Tryz.zeroValue94
 t33:=Tryz.underlying125
 a33:=Tryz.isAgg125
 z33:=Tryz.sizeOf125
 v33:=Tryz.zeroValue125
def sortedR:Go.Shelf.Ren:=⟨fun |6=>38|8=>62|9=>63|11=>88|n=>n,fun |0=>0|24=>91|26=>2|28=>94|33=>125|n=>n,fun n=>n⟩
set_option maxRecDepth 100000 in
theorem sortedL:SlLaysZI.n6 Tryz.prog sortedR where
 mixed:=by kernel_rfl
 f6:=⟨ "slices.Sorted[int64]",by decide,Tryz.func38.trans (congrArg some (by kernel_rfl))⟩
 f8:=⟨ "slices.Collect[int64]",by decide,Tryz.func62.trans (congrArg some (by kernel_rfl))⟩
 f11:=⟨ "slices.AppendSeq[[]int64,int64]",by decide,Tryz.func88.trans (congrArg some (by kernel_rfl))⟩
 t0:=Tryz.underlying0
 a0:=Tryz.isAgg0
 z0:=Tryz.sizeOf0
 v0:=Tryz.zeroValue0
 t24:=Tryz.underlying91
 a24:=Tryz.isAgg91
 z24:=Tryz.sizeOf91
 v24:=Tryz.zeroValue91
 t26:=Tryz.underlying2
 a26:=Tryz.isAgg2
 z26:=Tryz.sizeOf2
 v26:=Tryz.zeroValue2
 t28:=Tryz.underlying94
 a28:=Tryz.isAgg94
 z28:=Tryz.sizeOf94
 v28:=Tryz.zeroValue94
 i26:=by kernel_rfl
def sortR:Go.Shelf.Ren:=⟨fun |5=>63|7=>89|8=>60|10=>107|11=>108|12=>109|13=>110|14=>111|15=>112|16=>113|17=>114|18=>115|19=>84|20=>85|30=>128|31=>102|32=>103|33=>129|34=>130|35=>131|40=>146|n=>n,fun |0=>0|3=>3|4=>4|5=>5|9=>9|22=>91|23=>91|25=>2|32=>122|35=>152|36=>153|41=>157|44=>160|46=>162|53=>177|57=>181|63=>197|64=>198|n=>n,fun n=>n⟩
set_option maxRecDepth 100000 in
theorem sortL:SlLaysM.n5 Tryz.prog sortR where
 mixed:=by kernel_rfl
 f5:=⟨ "slices.Sort[[]int64,int64]",by decide,Tryz.func63.trans (congrArg some (by kernel_rfl))⟩
 f7:=⟨ "slices.pdqsortOrdered[int64]",by decide,Tryz.func89.trans (congrArg some (by kernel_rfl))⟩
 f8:=Tryz.func60.trans (congrArg some (by kernel_rfl))
 f10:=⟨ "slices.insertionSortOrdered[int64]",by decide,Tryz.func107.trans (congrArg some (by kernel_rfl))⟩
 f11:=⟨ "slices.heapSortOrdered[int64]",by decide,Tryz.func108.trans (congrArg some (by kernel_rfl))⟩
 f12:=⟨ "slices.breakPatternsOrdered[int64]",by decide,Tryz.func109.trans (congrArg some (by kernel_rfl))⟩
 f13:=⟨ "slices.choosePivotOrdered[int64]",by decide,Tryz.func110.trans (congrArg some (by kernel_rfl))⟩
 f14:=⟨ "slices.reverseRangeOrdered[int64]",by decide,Tryz.func111.trans (congrArg some (by kernel_rfl))⟩
 f15:=⟨ "slices.partialInsertionSortOrdered[int64]",by decide,Tryz.func112.trans (congrArg some (by kernel_rfl))⟩
 f16:=⟨ "cmp.Less[int64]",by decide,Tryz.func113.trans (congrArg some (by kernel_rfl))⟩
 f17:=⟨ "slices.partitionEqualOrdered[int64]",by decide,Tryz.func114.trans (congrArg some (by kernel_rfl))⟩
 f18:=⟨ "slices.partitionOrdered[int64]",by decide,Tryz.func115.trans (congrArg some (by kernel_rfl))⟩
 f19:=Tryz.func84.trans (congrArg some (by kernel_rfl))
 f20:=Tryz.func85.trans (congrArg some (by kernel_rfl))
 f30:=⟨ "slices.siftDownOrdered[int64]",by decide,Tryz.func128.trans (congrArg some (by kernel_rfl))⟩
 f31:=Tryz.func102.trans (congrArg some (by kernel_rfl))
 f32:=Tryz.func103.trans (congrArg some (by kernel_rfl))
 f33:=⟨ "slices.medianAdjacentOrdered[int64]",by decide,Tryz.func129.trans (congrArg some (by kernel_rfl))⟩
 f34:=⟨ "slices.medianOrdered[int64]",by decide,Tryz.func130.trans (congrArg some (by kernel_rfl))⟩
 f35:=⟨ "cmp.isNaN[int64]",by decide,Tryz.func131.trans (congrArg some (by kernel_rfl))⟩
 f40:=⟨ "slices.order2Ordered[int64]",by decide,Tryz.func146.trans (congrArg some (by kernel_rfl))⟩
 t0:=Tryz.underlying0
 a0:=Tryz.isAgg0
 z0:=Tryz.sizeOf0
 v0:=Tryz.zeroValue0
 t3:=Tryz.underlying3
 a3:=Tryz.isAgg3
 z3:=Tryz.sizeOf3
 v3:=Tryz.zeroValue3
 t4:=Tryz.underlying4
 a4:=Tryz.isAgg4
 z4:=Tryz.sizeOf4
 v4:=Tryz.zeroValue4
 t5:=Tryz.underlying5
 a5:=Tryz.isAgg5
 z5:=Tryz.sizeOf5
 v5:=Tryz.zeroValue5
 t9:=Tryz.underlying9
 a9:=Tryz.isAgg9
 z9:=Tryz.sizeOf9
 v9:=Tryz.zeroValue9
 t22:=Tryz.underlying91
 a22:=Tryz.isAgg91
 z22:=Tryz.sizeOf91
 v22:=Tryz.zeroValue91
 t23:=Tryz.underlying91
 a23:=Tryz.isAgg91
 z23:=Tryz.sizeOf91
 v23:=Tryz.zeroValue91
 t25:=Tryz.underlying2
 a25:=Tryz.isAgg2
 z25:=Tryz.sizeOf2
 v25:=Tryz.zeroValue2
 t32:=Tryz.underlying122
 a32:=Tryz.isAgg122
 z32:=Tryz.sizeOf122
 v32:=Tryz.zeroValue122
 t35:=Tryz.underlying152
 a35:=Tryz.isAgg152
 z35:=Tryz.sizeOf152
 v35:=Tryz.zeroValue152
 t36:=Tryz.underlying153
 a36:=Tryz.isAgg153
 z36:=Tryz.sizeOf153
 v36:=Tryz.zeroValue153
 t41:=Tryz.underlying157
 a41:=Tryz.isAgg157
 z41:=Tryz.sizeOf157
 v41:=Tryz.zeroValue157
 t44:=Tryz.underlying160
 a44:=Tryz.isAgg160
 z44:=Tryz.sizeOf160
 v44:=Tryz.zeroValue160
 t46:=Tryz.underlying162
 a46:=Tryz.isAgg162
 z46:=Tryz.sizeOf162
 v46:=Tryz.zeroValue162
 t53:=Tryz.underlying177
 a53:=Tryz.isAgg177
 z53:=Tryz.sizeOf177
 v53:=Tryz.zeroValue177
 t57:=Tryz.underlying181
 a57:=Tryz.isAgg181
 z57:=Tryz.sizeOf181
 v57:=Tryz.zeroValue181
 t63:=Tryz.underlying197
 a63:=Tryz.isAgg197
 z63:=Tryz.sizeOf197
 v63:=Tryz.zeroValue197
 t64:=Tryz.underlying198
 a64:=Tryz.isAgg198
 z64:=Tryz.sizeOf198
 v64:=Tryz.zeroValue198
end zl9
end
section
open Go.RowKit Go.Maps Go.Sort Go.Shelf
namespace WKeys
theorem sorts (m:Nat):AnyZI.SortsIn Tryz.prog zl9.sortedR Fence.wide m:=
 ⟨fun blk off cap ss W hH hblk hsz=>callsIn_wide.2 (AnyM.slices_Sort_int zl9.sortL blk off cap ss W hH hblk hsz),
 fun p cap W=>callsIn_wide.2 (AnyM.slices_Sort_int_none zl9.sortL p cap W)⟩
theorem keys_any (mb:Option Nat) (W:World):Calls Tryz.prog 39 #[.map mb] W fun e w'=>e= .returned (.func (.func 64) #[] #[.pointer (some ⟨W.heap.size,0,none⟩)])∧w'=W.alloc (.cells #[.map mb] 70):=
 (callsIn_wide (n:=5)).1 (AnyZI.keys_in zl9.keysL Fence.wide 5 trivial rfl mb W)
theorem sorted_any (q n Bm:Nat) (D:DataW Value) (w:World) (hB:Bm<w.heap.size) (hm:w.cell? ⟨Bm,0,none⟩=some (.map (some q))) (hown:w.ownsMap Tryz.prog 2 MapI.elem q n D) (hmax:Maps.size D≤100):
  Calls Tryz.prog 38 #[.func (.func 64) #[] #[.pointer (some ⟨Bm,0,none⟩)]] w fun e w'=>∃ (v:Value) (ss:List Int),e= .returned v∧ss.Perm (intKeys D)∧
   w'.ownsRow w.heap.size 2 1 v ss.length ((ss.mergeSort (fun x y=>decide (x≤y))).map encZ)∧Below w.heap.size w w':=by
 have hseq:SeqGives Fence.wide 2 Tryz.prog 64 #[.pointer (some ⟨Bm,0,none⟩)] encZ (fun ss=>ss.Perm (intKeys D)) (Maps.size D) w:=
  AnyZI.keys_gives (ρ:=zl9.keysR) { zl9.keysL with } Fence.wide _ trivial rfl (by omega) Bm q n D _ hB hm hown
 have cS:=AnyZI.sorted_in zl9.sortedL Fence.wide 5 trivial trivial trivial trivial rfl (by omega) (sorts _) (enters_of Tryz.func63 (by kernel_rfl) rfl) 64 #[.pointer (some ⟨Bm,0,none⟩)] trivial (enters_of Tryz.func64 (by kernel_rfl) rfl) _ _ (by unfold maxLen;omega) (by omega) _ hseq;exact ((callsIn_wide (n:=5)).1 cS).mono fun e w' ⟨v,ss,h1,h2,h3,_,h5⟩=>⟨v,ss,h1,h2,h3,h5⟩
theorem size_le {w:World} {q n:Nat} {D:DataW Value} (h:w.ownsMap Tryz.prog 2 MapI.elem q n D):Maps.size D≤n:=by
 obtain ⟨es,clock,hb,F,hs,rfl⟩:=h;rw [Maps.size_eq,length_read];exact hs
theorem ids_perm {w:World} {q n:Nat} {E:List (Int × Value)} (h:w.ownsMap Tryz.prog 2 MapI.elem q n (MapI.mapOf E)) (hE:E.Pairwise (fun a b=>a.1≠b.1)):(E.map (·.1)).Perm (intKeys (MapI.mapOf E)):=by
 obtain ⟨es,hD,hpw,_⟩:=h.entries MapI.law;obtain ⟨es',hD',hko⟩:=h.keysOf;obtain rfl:es=es':=by rw [hD] at hD';simpa using hD'
 have hh:=fun x=>(MapI.look hE x (.int .i64 0)).1;rw [hD] at hh ⊢;refine perm_intKeys hpw (fun p hp=>?_) (by rw [List.Nodup,List.pairwise_map];exact hE) (fun x=>?_)
 ·obtain ⟨v,hv⟩:=hko p hp;obtain ⟨x,_,hx,_⟩:=Maps.keyOf_i64 Tryz.underlying2 hv;exact ⟨x,hx⟩
 ·have :=hh x;unfold MapI.key at this;rw [this,decide_eq_true_eq]
theorem ids_any (q n Bm:Nat) (E:List (Int × Value)) (w:World) (hn:n≤100) (hB:Bm<w.heap.size) (hm:w.cell? ⟨Bm,0,none⟩=some (.map (some q))) (hown:w.ownsMap Tryz.prog 2 MapI.elem q n (MapI.mapOf E)) (hp:(E.map (·.1)).Pairwise (· < ·)):
  Calls Tryz.prog 38 #[.func (.func 64) #[] #[.pointer (some ⟨Bm,0,none⟩)]] w fun e w'=>∃v:Value,e= .returned v∧
   w'.ownsRow w.heap.size 2 1 v E.length ((E.map (·.1)).map (Value.int .i64))∧Below w.heap.size w w':=by
 have hE:E.Pairwise (fun a b=>a.1≠b.1):=(List.pairwise_map.1 hp).imp (fun h=>by omega);have hpm:=ids_perm hown hE;refine (sorted_any q n Bm _ w hB hm hown (Nat.le_trans (size_le hown) hn)).mono fun e w' ⟨v,ss,h1,h2,h3,h4⟩=>⟨v,h1,?_,h4⟩;have e1:ss.Perm (E.map (·.1)):=h2.trans hpm.symm
 have e2:ss.mergeSort (fun x y=>decide (x≤y))=E.map (·.1):=by
  refine List.Perm.eq_of_pairwise (le:=fun a b:Int=>a<b∨a=b) (fun a b _ _ h1 h2=>by omega) ?_ (hp.imp (fun h=>Or.inl h)) ((List.mergeSort_perm ss _).trans e1);refine (List.pairwise_mergeSort (le:=fun x y:Int=>decide (x≤y)) (fun a b c h1 h2=>by simp only [decide_eq_true_eq] at *;omega) (fun a b=>by simp only [Bool.or_eq_true,decide_eq_true_eq];omega) ss).imp (fun h=>?_);simp only [decide_eq_true_eq] at h;omega
 have e3:ss.length=E.length:=by rw [e1.length_eq,List.length_map]
 rw [e2,e3] at h3;exact h3
end WKeys
end
end Go.Proofs.YtggadpalljhiaaaGreatDoor
