import Derived.Shelf.SortM.Plain
import Derived.Shelf.SortM.SortNone
import Derived.Shelf.SlicesG.CompactS
import Derived.Test.YtpggbphcbcogdaaGreatDoorProg
namespace Go.Proofs.YtpggbphcbcogdaaGreatDoor
open Go.Shelf
namespace LayStr
def sortR:Go.Shelf.Ren:=⟨fun |6=>74|8=>90|9=>89|19=>107|20=>108|21=>98|22=>99|23=>100|24=>101|25=>102|26=>103|27=>104|28=>105|29=>106|31=>111|32=>112|36=>110|37=>113|38=>114|39=>115|41=>116|n=>n,fun |0=>0|3=>3|4=>4|5=>5|9=>9|26=>24|27=>24|29=>9|32=>151|35=>158|36=>159|41=>163|44=>166|46=>168|53=>170|57=>174|63=>176|64=>177|n=>n,fun n=>n⟩
set_option maxRecDepth 100000 in
theorem sortL:SlLaysM.n6 Tryz.prog sortR where
 mixed:=by kernel_rfl
 f6:=⟨ "slices.Sort[[]string,string]",by decide,Tryz.func74.trans (congrArg some (by kernel_rfl))⟩
 f8:=Tryz.func90.trans (congrArg some (by kernel_rfl))
 f9:=⟨ "slices.pdqsortOrdered[string]",by decide,Tryz.func89.trans (congrArg some (by kernel_rfl))⟩
 f19:=Tryz.func107.trans (congrArg some (by kernel_rfl))
 f20:=Tryz.func108.trans (congrArg some (by kernel_rfl))
 f21:=⟨ "slices.insertionSortOrdered[string]",by decide,Tryz.func98.trans (congrArg some (by kernel_rfl))⟩
 f22:=⟨ "slices.heapSortOrdered[string]",by decide,Tryz.func99.trans (congrArg some (by kernel_rfl))⟩
 f23:=⟨ "slices.breakPatternsOrdered[string]",by decide,Tryz.func100.trans (congrArg some (by kernel_rfl))⟩
 f24:=⟨ "slices.choosePivotOrdered[string]",by decide,Tryz.func101.trans (congrArg some (by kernel_rfl))⟩
 f25:=⟨ "slices.reverseRangeOrdered[string]",by decide,Tryz.func102.trans (congrArg some (by kernel_rfl))⟩
 f26:=⟨ "slices.partialInsertionSortOrdered[string]",by decide,Tryz.func103.trans (congrArg some (by kernel_rfl))⟩
 f27:=⟨ "cmp.Less[string]",by decide,Tryz.func104.trans (congrArg some (by kernel_rfl))⟩
 f28:=⟨ "slices.partitionEqualOrdered[string]",by decide,Tryz.func105.trans (congrArg some (by kernel_rfl))⟩
 f29:=⟨ "slices.partitionOrdered[string]",by decide,Tryz.func106.trans (congrArg some (by kernel_rfl))⟩
 f31:=Tryz.func111.trans (congrArg some (by kernel_rfl))
 f32:=Tryz.func112.trans (congrArg some (by kernel_rfl))
 f36:=⟨ "slices.siftDownOrdered[string]",by decide,Tryz.func110.trans (congrArg some (by kernel_rfl))⟩
 f37:=⟨ "slices.medianAdjacentOrdered[string]",by decide,Tryz.func113.trans (congrArg some (by kernel_rfl))⟩
 f38:=⟨ "slices.medianOrdered[string]",by decide,Tryz.func114.trans (congrArg some (by kernel_rfl))⟩
 f39:=⟨ "cmp.isNaN[string]",by decide,Tryz.func115.trans (congrArg some (by kernel_rfl))⟩
 f41:=⟨ "slices.order2Ordered[string]",by decide,Tryz.func116.trans (congrArg some (by kernel_rfl))⟩
 t0:=Tryz.underlying0
 a0:=Tryz.isAgg0
 z0:=Tryz.sizeOf0
 v0:=Tryz.zeroValue0
 t3:=Tryz.underlying3
 a3:=Tryz.isAgg3
 z3:=Tryz.sizeOf3
 v3:=Tryz.zeroValue3
 t4:=Tryz.underlying4
 a4:=Tryz.isAgg4
 z4:=Tryz.sizeOf4
 v4:=Tryz.zeroValue4
 t5:=Tryz.underlying5
 a5:=Tryz.isAgg5
 z5:=Tryz.sizeOf5
 v5:=Tryz.zeroValue5
 t9:=Tryz.underlying9
 a9:=Tryz.isAgg9
 z9:=Tryz.sizeOf9
 v9:=Tryz.zeroValue9
 t26:=Tryz.underlying24
 a26:=Tryz.isAgg24
 z26:=Tryz.sizeOf24
 v26:=Tryz.zeroValue24
 t27:=Tryz.underlying24
 a27:=Tryz.isAgg24
 z27:=Tryz.sizeOf24
 v27:=Tryz.zeroValue24
 t29:=Tryz.underlying9
 a29:=Tryz.isAgg9
 z29:=Tryz.sizeOf9
 v29:=Tryz.zeroValue9
 t32:=Tryz.underlying151
 a32:=Tryz.isAgg151
 z32:=Tryz.sizeOf151
 v32:=Tryz.zeroValue151
 t35:=Tryz.underlying158
 a35:=Tryz.isAgg158
 z35:=Tryz.sizeOf158
 v35:=Tryz.zeroValue158
 t36:=Tryz.underlying159
 a36:=Tryz.isAgg159
 z36:=Tryz.sizeOf159
 v36:=Tryz.zeroValue159
 t41:=Tryz.underlying163
 a41:=Tryz.isAgg163
 z41:=Tryz.sizeOf163
 v41:=Tryz.zeroValue163
 t44:=Tryz.underlying166
 a44:=Tryz.isAgg166
 z44:=Tryz.sizeOf166
 v44:=Tryz.zeroValue166
 t46:=Tryz.underlying168
 a46:=Tryz.isAgg168
 z46:=Tryz.sizeOf168
 v46:=Tryz.zeroValue168
 t53:=Tryz.underlying170
 a53:=Tryz.isAgg170
 z53:=Tryz.sizeOf170
 v53:=Tryz.zeroValue170
 t57:=Tryz.underlying174
 a57:=Tryz.isAgg174
 z57:=Tryz.sizeOf174
 v57:=Tryz.zeroValue174
 t63:=Tryz.underlying176
 a63:=Tryz.isAgg176
 z63:=Tryz.sizeOf176
 v63:=Tryz.zeroValue176
 t64:=Tryz.underlying177
 a64:=Tryz.isAgg177
 z64:=Tryz.sizeOf177
 v64:=Tryz.zeroValue177
def compactR:Go.Shelf.Ren:=⟨fun |44=>55|n=>n,fun |0=>0|3=>3|4=>4|25=>24|26=>9|n=>n,fun n=>n⟩
set_option maxRecDepth 100000 in
theorem compactL:SlLaysN.n44 Tryz.prog compactR where
 mixed:=by kernel_rfl
 f44:=⟨ "slices.Compact[[]string,string]",by decide,Tryz.func55.trans (congrArg some (by kernel_rfl))⟩
 t0:=Tryz.underlying0
 a0:=Tryz.isAgg0
 z0:=Tryz.sizeOf0
 v0:=Tryz.zeroValue0
 t3:=Tryz.underlying3
 a3:=Tryz.isAgg3
 z3:=Tryz.sizeOf3
 v3:=Tryz.zeroValue3
 t4:=Tryz.underlying4
 a4:=Tryz.isAgg4
 z4:=Tryz.sizeOf4
 v4:=Tryz.zeroValue4
 t25:=Tryz.underlying24
 a25:=Tryz.isAgg24
 z25:=Tryz.sizeOf24
 v25:=Tryz.zeroValue24
 t26:=Tryz.underlying9
 a26:=Tryz.isAgg9
 z26:=Tryz.sizeOf9
 v26:=Tryz.zeroValue9
 i26:=by kernel_rfl
end LayStr
end Go.Proofs.YtpggbphcbcogdaaGreatDoor
