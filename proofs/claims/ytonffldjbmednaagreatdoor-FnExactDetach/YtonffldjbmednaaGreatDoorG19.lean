/- Several texts of one claim in one file: LayKeys, WKeys. -/
import Derived.Shelf.SlIterI.Nil
import Derived.Shelf.SortM.Plain
import Derived.Shelf.SortM.SortNone
import Derived.Test.YtonffldjbmednaaGreatDoorProg
import Derived.Test.YtonffldjbmednaaGreatDoorG00
import Derived.Test.YtonffldjbmednaaGreatDoorG07
namespace Go.Proofs.YtonffldjbmednaaGreatDoor
section
open Go.Shelf
namespace zl9
def keysR:Go.Shelf.Ren:=⟨fun |7=>68|10=>110|n=>n,fun |0=>0|3=>121|4=>4|23=>57|26=>2|27=>112|28=>113|33=>161|n=>n,fun n=>n⟩
set_option maxRecDepth 100000 in
theorem keysL:SlLaysZI.n7 Tryz.prog keysR where
 mixed:=by kernel_rfl
 f7:=⟨ "maps.Keys[map[int64]loop.example/g00449/impl.nest[loop.example/g00449/impl.treeItem],int64,loop.example/g00449/impl.nest[loop.example/g00449/impl.treeItem]]",by decide,Tryz.func68.trans (congrArg some (by kernel_rfl))⟩
 f10:=⟨ "maps.Keys[map[int64]loop.example/g00449/impl.nest[loop.example/g00449/impl.treeItem],int64,loop.example/g00449/impl.nest[loop.example/g00449/impl.treeItem]]$1",by decide,Tryz.func110.trans (congrArg some (by kernel_rfl))⟩
 t0:=Tryz.underlying0
 a0:=Tryz.isAgg0
 z0:=Tryz.sizeOf0
 v0:=Tryz.zeroValue0
 t4:=Tryz.underlying4
 a4:=Tryz.isAgg4
 z4:=Tryz.sizeOf4
 v4:=Tryz.zeroValue4
 t23:=Tryz.underlying57
 a23:=Tryz.isAgg57
 z23:=Tryz.sizeOf57
 v23:=Tryz.zeroValue57
 t26:=Tryz.underlying2
 a26:=Tryz.isAgg2
 z26:=Tryz.sizeOf2
 v26:=Tryz.zeroValue2
 t27:=Tryz.underlying112
 a27:=Tryz.isAgg112
 z27:=Tryz.sizeOf112
 v27:=Tryz.zeroValue112
 t28:=Tryz.underlying113
 a28:=Tryz.isAgg113
 z28:=Tryz.sizeOf113
 v28:=Tryz.zeroValue113
 t33:=Tryz.underlying161
 a33:=Tryz.isAgg161
 z33:=Tryz.sizeOf161
 v33:=Tryz.zeroValue161
def sortedR:Go.Shelf.Ren:=⟨fun |6=>67|8=>108|9=>109|11=>132|n=>n,fun |0=>0|24=>110|26=>2|28=>113|33=>161|n=>n,fun n=>n⟩
set_option maxRecDepth 100000 in
theorem sortedL:SlLaysZI.n6 Tryz.prog sortedR where
 mixed:=by kernel_rfl
 f6:=⟨ "slices.Sorted[int64]",by decide,Tryz.func67.trans (congrArg some (by kernel_rfl))⟩
 f8:=⟨ "slices.Collect[int64]",by decide,Tryz.func108.trans (congrArg some (by kernel_rfl))⟩
 f11:=⟨ "slices.AppendSeq[[]int64,int64]",by decide,Tryz.func132.trans (congrArg some (by kernel_rfl))⟩
 t0:=Tryz.underlying0
 a0:=Tryz.isAgg0
 z0:=Tryz.sizeOf0
 v0:=Tryz.zeroValue0
 t24:=Tryz.underlying110
 a24:=Tryz.isAgg110
 z24:=Tryz.sizeOf110
 v24:=Tryz.zeroValue110
 t26:=Tryz.underlying2
 a26:=Tryz.isAgg2
 z26:=Tryz.sizeOf2
 v26:=Tryz.zeroValue2
 t28:=Tryz.underlying113
 a28:=Tryz.isAgg113
 z28:=Tryz.sizeOf113
 v28:=Tryz.zeroValue113
 i26:=by kernel_rfl
def sortR:Go.Shelf.Ren:=⟨fun |5=>109|7=>133|8=>134|10=>150|11=>151|12=>152|13=>153|14=>154|15=>155|16=>156|17=>157|18=>158|19=>159|20=>160|30=>167|31=>168|32=>169|33=>170|34=>171|35=>172|40=>186|n=>n,fun |0=>0|3=>3|4=>4|5=>5|9=>9|22=>110|23=>110|25=>2|32=>187|35=>202|36=>203|41=>208|44=>211|46=>213|53=>221|57=>225|63=>239|64=>240|n=>n,fun n=>n⟩
set_option maxRecDepth 100000 in
theorem sortL:SlLaysM.n5 Tryz.prog sortR where
 mixed:=by kernel_rfl
 f5:=⟨ "slices.Sort[[]int64,int64]",by decide,Tryz.func109.trans (congrArg some (by kernel_rfl))⟩
 f7:=⟨ "slices.pdqsortOrdered[int64]",by decide,Tryz.func133.trans (congrArg some (by kernel_rfl))⟩
 f8:=Tryz.func134.trans (congrArg some (by kernel_rfl))
 f10:=⟨ "slices.insertionSortOrdered[int64]",by decide,Tryz.func150.trans (congrArg some (by kernel_rfl))⟩
 f11:=⟨ "slices.heapSortOrdered[int64]",by decide,Tryz.func151.trans (congrArg some (by kernel_rfl))⟩
 f12:=⟨ "slices.breakPatternsOrdered[int64]",by decide,Tryz.func152.trans (congrArg some (by kernel_rfl))⟩
 f13:=⟨ "slices.choosePivotOrdered[int64]",by decide,Tryz.func153.trans (congrArg some (by kernel_rfl))⟩
 f14:=⟨ "slices.reverseRangeOrdered[int64]",by decide,Tryz.func154.trans (congrArg some (by kernel_rfl))⟩
 f15:=⟨ "slices.partialInsertionSortOrdered[int64]",by decide,Tryz.func155.trans (congrArg some (by kernel_rfl))⟩
 f16:=⟨ "cmp.Less[int64]",by decide,Tryz.func156.trans (congrArg some (by kernel_rfl))⟩
 f17:=⟨ "slices.partitionEqualOrdered[int64]",by decide,Tryz.func157.trans (congrArg some (by kernel_rfl))⟩
 f18:=⟨ "slices.partitionOrdered[int64]",by decide,Tryz.func158.trans (congrArg some (by kernel_rfl))⟩
 f19:=Tryz.func159.trans (congrArg some (by kernel_rfl))
 f20:=Tryz.func160.trans (congrArg some (by kernel_rfl))
 f30:=⟨ "slices.siftDownOrdered[int64]",by decide,Tryz.func167.trans (congrArg some (by kernel_rfl))⟩
 f31:=Tryz.func168.trans (congrArg some (by kernel_rfl))
 f32:=Tryz.func169.trans (congrArg some (by kernel_rfl))
 f33:=⟨ "slices.medianAdjacentOrdered[int64]",by decide,Tryz.func170.trans (congrArg some (by kernel_rfl))⟩
 f34:=⟨ "slices.medianOrdered[int64]",by decide,Tryz.func171.trans (congrArg some (by kernel_rfl))⟩
 f35:=⟨ "cmp.isNaN[int64]",by decide,Tryz.func172.trans (congrArg some (by kernel_rfl))⟩
 f40:=⟨ "slices.order2Ordered[int64]",by decide,Tryz.func186.trans (congrArg some (by kernel_rfl))⟩
 t0:=Tryz.underlying0
 a0:=Tryz.isAgg0
 z0:=Tryz.sizeOf0
 v0:=Tryz.zeroValue0
 t3:=Tryz.underlying3
 a3:=Tryz.isAgg3
 z3:=Tryz.sizeOf3
 v3:=Tryz.zeroValue3
 t4:=Tryz.underlying4
 a4:=Tryz.isAgg4
 z4:=Tryz.sizeOf4
 v4:=Tryz.zeroValue4
 t5:=Tryz.underlying5
 a5:=Tryz.isAgg5
 z5:=Tryz.sizeOf5
 v5:=Tryz.zeroValue5
 t9:=Tryz.underlying9
 a9:=Tryz.isAgg9
 z9:=Tryz.sizeOf9
 v9:=Tryz.zeroValue9
 t22:=Tryz.underlying110
 a22:=Tryz.isAgg110
 z22:=Tryz.sizeOf110
 v22:=Tryz.zeroValue110
 t23:=Tryz.underlying110
 a23:=Tryz.isAgg110
 z23:=Tryz.sizeOf110
 v23:=Tryz.zeroValue110
 t25:=Tryz.underlying2
 a25:=Tryz.isAgg2
 z25:=Tryz.sizeOf2
 v25:=Tryz.zeroValue2
 t32:=Tryz.underlying187
 a32:=Tryz.isAgg187
 z32:=Tryz.sizeOf187
 v32:=Tryz.zeroValue187
 t35:=Tryz.underlying202
 a35:=Tryz.isAgg202
 z35:=Tryz.sizeOf202
 v35:=Tryz.zeroValue202
 t36:=Tryz.underlying203
 a36:=Tryz.isAgg203
 z36:=Tryz.sizeOf203
 v36:=Tryz.zeroValue203
 t41:=Tryz.underlying208
 a41:=Tryz.isAgg208
 z41:=Tryz.sizeOf208
 v41:=Tryz.zeroValue208
 t44:=Tryz.underlying211
 a44:=Tryz.isAgg211
 z44:=Tryz.sizeOf211
 v44:=Tryz.zeroValue211
 t46:=Tryz.underlying213
 a46:=Tryz.isAgg213
 z46:=Tryz.sizeOf213
 v46:=Tryz.zeroValue213
 t53:=Tryz.underlying221
 a53:=Tryz.isAgg221
 z53:=Tryz.sizeOf221
 v53:=Tryz.zeroValue221
 t57:=Tryz.underlying225
 a57:=Tryz.isAgg225
 z57:=Tryz.sizeOf225
 v57:=Tryz.zeroValue225
 t63:=Tryz.underlying239
 a63:=Tryz.isAgg239
 z63:=Tryz.sizeOf239
 v63:=Tryz.zeroValue239
 t64:=Tryz.underlying240
 a64:=Tryz.isAgg240
 z64:=Tryz.sizeOf240
 v64:=Tryz.zeroValue240
end zl9
end
section
open Go.RowKit Go.Maps Go.Sort Go.Shelf
namespace WKeys
theorem sorts (m:Nat):AnyZI.SortsIn Tryz.prog zl9.sortedR Fence.wide m:=
 ⟨fun blk off cap ss W hH hblk hsz=>callsIn_wide.2 (AnyM.slices_Sort_int zl9.sortL blk off cap ss W hH hblk hsz),
 fun p cap W=>callsIn_wide.2 (AnyM.slices_Sort_int_none zl9.sortL p cap W)⟩
theorem keys_any (mb:Option Nat) (W:World):Calls Tryz.prog 68 #[.map mb] W fun e w'=>e= .returned (.func (.func 110) #[] #[.pointer (some ⟨W.heap.size,0,none⟩)])∧w'=W.alloc (.cells #[.map mb] 57):=
 (callsIn_wide (n:=5)).1 (AnyZI.keys_in zl9.keysL Fence.wide 5 trivial rfl mb W)
theorem sorted_any (q n Bm:Nat) (D:DataW Value) (w:World) (hB:Bm<w.heap.size) (hm:w.cell? ⟨Bm,0,none⟩=some (.map (some q))) (hown:w.ownsMap Tryz.prog 2 MapI.elem q n D) (hmax:Maps.size D≤100):
  Calls Tryz.prog 67 #[.func (.func 110) #[] #[.pointer (some ⟨Bm,0,none⟩)]] w fun e w'=>∃ (v:Value) (ss:List Int),e= .returned v∧ss.Perm (intKeys D)∧
   w'.ownsRow w.heap.size 2 1 v ss.length ((ss.mergeSort (fun x y=>decide (x≤y))).map encZ)∧Below w.heap.size w w':=by
 have hseq:SeqGives Fence.wide 2 Tryz.prog 110 #[.pointer (some ⟨Bm,0,none⟩)] encZ (fun ss=>ss.Perm (intKeys D)) (Maps.size D) w:=
  AnyZI.keys_gives (ρ:=zl9.keysR) { zl9.keysL with } Fence.wide _ trivial rfl (by omega) Bm q n D _ hB hm hown
 have cS:=AnyZI.sorted_in zl9.sortedL Fence.wide 5 trivial trivial trivial trivial rfl (by omega) (sorts _) (enters_of Tryz.func109 (by kernel_rfl) rfl) 110 #[.pointer (some ⟨Bm,0,none⟩)] trivial (enters_of Tryz.func110 (by kernel_rfl) rfl) _ _ (by unfold maxLen;omega) (by omega) _ hseq;exact ((callsIn_wide (n:=5)).1 cS).mono fun e w' ⟨v,ss,h1,h2,h3,_,h5⟩=>⟨v,ss,h1,h2,h3,h5⟩
theorem size_le {w:World} {q n:Nat} {D:DataW Value} (h:w.ownsMap Tryz.prog 2 MapI.elem q n D):Maps.size D≤n:=by
 obtain ⟨es,clock,hb,F,hs,rfl⟩:=h;rw [Maps.size_eq,length_read];exact hs
theorem ids_perm {w:World} {q n:Nat} {E:List (Int × Value)} (h:w.ownsMap Tryz.prog 2 MapI.elem q n (MapI.mapOf E)) (hE:E.Pairwise (fun a b=>a.1≠b.1)):(E.map (·.1)).Perm (intKeys (MapI.mapOf E)):=by
 obtain ⟨es,hD,hpw,_⟩:=h.entries MapI.law;obtain ⟨es',hD',hko⟩:=h.keysOf;obtain rfl:es=es':=by rw [hD] at hD';simpa using hD'
 have hh:=fun x=>(MapI.look hE x (.int .i64 0)).1;rw [hD] at hh ⊢;refine perm_intKeys hpw (fun p hp=>?_) (by rw [List.Nodup,List.pairwise_map];exact hE) (fun x=>?_)
 ·obtain ⟨v,hv⟩:=hko p hp;obtain ⟨x,_,hx,_⟩:=Maps.keyOf_i64 Tryz.underlying2 hv;exact ⟨x,hx⟩
 ·have :=hh x;unfold MapI.key at this;rw [this,decide_eq_true_eq]
theorem ids_any (q n Bm:Nat) (E:List (Int × Value)) (w:World) (hn:n≤100) (hB:Bm<w.heap.size) (hm:w.cell? ⟨Bm,0,none⟩=some (.map (some q))) (hown:w.ownsMap Tryz.prog 2 MapI.elem q n (MapI.mapOf E)) (hp:(E.map (·.1)).Pairwise (· < ·)):
  Calls Tryz.prog 67 #[.func (.func 110) #[] #[.pointer (some ⟨Bm,0,none⟩)]] w fun e w'=>∃v:Value,e= .returned v∧
   w'.ownsRow w.heap.size 2 1 v E.length ((E.map (·.1)).map (Value.int .i64))∧Below w.heap.size w w':=by
 have hE:E.Pairwise (fun a b=>a.1≠b.1):=(List.pairwise_map.1 hp).imp (fun h=>by omega);have hpm:=ids_perm hown hE;refine (sorted_any q n Bm _ w hB hm hown (Nat.le_trans (size_le hown) hn)).mono fun e w' ⟨v,ss,h1,h2,h3,h4⟩=>⟨v,h1,?_,h4⟩;have e1:ss.Perm (E.map (·.1)):=h2.trans hpm.symm
 have e2:ss.mergeSort (fun x y=>decide (x≤y))=E.map (·.1):=by
  refine List.Perm.eq_of_pairwise (le:=fun a b:Int=>a<b∨a=b) (fun a b _ _ h1 h2=>by omega) ?_ (hp.imp (fun h=>Or.inl h)) ((List.mergeSort_perm ss _).trans e1);refine (List.pairwise_mergeSort (le:=fun x y:Int=>decide (x≤y)) (fun a b c h1 h2=>by simp only [decide_eq_true_eq] at *;omega) (fun a b=>by simp only [Bool.or_eq_true,decide_eq_true_eq];omega) ss).imp (fun h=>?_);simp only [decide_eq_true_eq] at h;omega
 have e3:ss.length=E.length:=by rw [e1.length_eq,List.length_map]
 rw [e2,e3] at h3;exact h3
end WKeys
end
end Go.Proofs.YtonffldjbmednaaGreatDoor
