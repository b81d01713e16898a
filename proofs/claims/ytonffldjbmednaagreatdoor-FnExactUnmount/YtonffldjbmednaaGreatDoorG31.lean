/- Several texts of one claim in one file: MemLess, WSpI18, WSpI19, LayKeys, WKeys, WItemNe, MemUpA. -/
import Derived.Test.YtonffldjbmednaaGreatDoorG15
import Derived.Maps.Ext
import Derived.Maps.Keyed
import Derived.ChangeMaps
import Derived.Test.YtonffldjbmednaaGreatDoorG06
import Derived.Deep.RegionHeld3
import Derived.Test.YtonffldjbmednaaGreatDoorProg
import Derived.Maps.OwnSet
import Derived.Maps.RangeWalk
import Derived.Laws.AppendOwn
import Derived.Laws.AppendOwnNone
import Derived.Deep.Draws
import Derived.Laws.CopyRow
import Derived.Outline
import Derived.Deep.QuietTactic
import Derived.BigQuiet
import Derived.Test.YtonffldjbmednaaGreatDoorPlainClose
import Derived.WalkSpells
import Derived.Lib.OthersKept
import Derived.Laws.RangeAny
import Derived.Deep.Cut
import Derived.Shelf.SlIterI.Nil
import Derived.Shelf.SortM.Plain
import Derived.Shelf.SortM.SortNone
import Derived.Calls
import Derived.Lone
import Derived.RunT
import Derived.Shelf.SlSortCmp.NoneTotal
import Derived.Lib.QuietBelow
import Derived.Sort.MapsRangeIn
import Derived.Laws.IdiomRangeMap
import Derived.Deep.Upon
import Derived.Test.YtonffldjbmednaaGreatDoorG00
import Derived.Test.YtonffldjbmednaaGreatDoorG07
import Derived.Test.YtonffldjbmednaaGreatDoorG10
import Derived.Test.YtonffldjbmednaaGreatDoorG23
import Derived.Test.YtonffldjbmednaaGreatDoorG12
namespace Go.Proofs.YtonffldjbmednaaGreatDoor
section
open Go.RowKit Go.Maps
namespace Mem
structure Out (lo hi X:Nat) (w w':World):Prop where
 os:w'.os=w.os
 tape:w'.tape=w.tape
 output:w'.output=w.output
 size:w.heap.size≤w'.heap.size
 block:∀b,b<w.heap.size→b≠X→b<lo∨hi≤b→w'.heap[b]? =w.heap[b]?
theorem Out.below {lo hi X:Nat} {w w':World} (h:Out lo hi X w w') (hX:lo≤X) (hw:lo≤w.heap.size):Below lo w w':=⟨h.os,h.tape,h.output,h.size,fun b hb=>h.block b (by omega) (by omega) (.inl hb)⟩
theorem Out.blk {lo hi X:Nat} {w w':World} (h:Out lo hi X w w') {Y:Nat} {cs:Array Value} {T:TypeId} (b:Blk w Y cs T) (hY:Y≠X) (hl:Y<lo∨hi≤Y):Blk w' Y cs T:=(h.block Y b.lt hY hl).trans b
theorem own3_base {α:Type} {T:TypeId} {cs:α→List Value} {w:World} {B S:Nat} {v:Value} {L:List α} (h:own3 T cs w B v L) (hS:∀g,v.ownBlock=some g→S≤g):own3 T cs w S v L:=by
 refine ⟨h.1,?_⟩
 rcases h.2 with h0|⟨g,cap,cur,rfl,hb,rest⟩
 ·exact .inl h0
 ·exact .inr ⟨g,cap,cur,rfl,hS g rfl,rest⟩
theorem ze0.filter {w:World} {B:Nat} (f:Int→Bool):∀ (E:List (Int × Pl.Nv)) (N:List Pl.Ns),ze0 w B E N→E.map (·.1)=N.map (·.d)→ze0 w B (E.filter (fun x=>f x.1)) (N.filter (fun x=>f x.d)):=by
 intro E
 induction E with
 |nil=>intro N h e i y hy;simp at hy
 |cons a E ih=>
  intro N h e;cases N with
  |nil=>simp at e
  |cons b N=>
   rw [List.map_cons,List.map_cons,List.cons.injEq] at e;have h2:ze0 w B E N:=fun i y hy=>h (i+1) y (by simpa using hy);have h3:=ih N h2 e.2;rw [List.filter_cons,List.filter_cons,←e.1];cases f a.1 with
   |false=>exact h3
   |true=>
    intro i y hy;cases i with
    |zero=>exact h 0 y (by simpa using hy)
    |succ i=>exact h3 i y (by simpa using hy)
theorem filt_pair (f:Int→Bool):∀ (E:List (Int × Pl.Nv)) (N:List Pl.Ns),E.map (·.1)=N.map (·.d)→(E.filter (fun x=>f x.1)).map (·.1)=(N.filter (fun x=>f x.d)).map (·.d):=by
 intro E
 induction E with
 |nil=>intro N e;cases N with |nil=>rfl |cons b N=>simp at e
 |cons a E ih=>
  intro N e;cases N with
  |nil=>simp at e
  |cons b N=>
   rw [List.map_cons,List.map_cons,List.cons.injEq] at e;have h3:=ih N e.2;rw [List.filter_cons,List.filter_cons,←e.1];cases f a.1 with
   |false=>exact h3
   |true=>simp only [if_true,List.map_cons,h3,e.1]
end Mem
namespace SpO
theorem SpV.less {B:Nat} {V W':World} {s:Pl.Sp} {q:Nat} {E:List (Int × Pl.Nv)} {ma:Option Addr} {mc:Nat} {ha:Option Addr} {hc:Nat} (h:SpV B V s q E ma mc ha hc) (f:Int→Bool) {M':List Pl.Mn} {H':List Pl.Hn} {ma' ha':Option Addr} {mc' hc' B1 B2:Nat}
  (hs:V.heap.size≤W'.heap.size) (gb:∀b,b<V.heap.size→b≠q→(Value.slice ma s.M.length mc).ownBlock≠some b→(Value.slice ha s.H.length hc).ownBlock≠some b→W'.heap[b]? =V.heap[b]?)
  (oM:Mem.own3 50 Pl.Mn.cs W' B1 (.slice ma' M'.length mc') M') (bM:∀g,(Value.slice ma' M'.length mc').ownBlock=some g→(Value.slice ma s.M.length mc).ownBlock=some g)
  (oH:Mem.own3 87 Pl.Hn.cs W' B2 (.slice ha' H'.length hc') H') (bH:∀g,(Value.slice ha' H'.length hc').ownBlock=some g→(Value.slice ha s.H.length hc).ownBlock=some g)
  (mo:W'.ownsMap Tryz.prog 2 MapI.elem q 12 (MapI.mapOf (Pl.vals (E.filter (fun x=>f x.1))))) (u:Pl.Sp) (uN:u.N=s.N.filter (fun x=>f x.d)) (uM:u.M=M') (uH:u.H=H'):
  SpV B W' u q (E.filter (fun x=>f x.1)) ma' mc' ha' hc':=by
 subst uM;subst uH;obtain ⟨h1,h2,h3,⟨W1,h4,h5,h6,h7,h8,h9⟩,h10⟩:=h;refine ⟨h1,by rw [uN];exact Mem.filt_pair f E s.N h2,mo,⟨W1,by rw [uN];exact Mem.ze0.filter f E s.N h4 h2,Nat.le_trans h5 hs,h6,fun b hb hl=>?_,Mem.own3_base oM (fun g hg=>(Mem.za5 h8 g (bM g hg)).1),Mem.own3_base oH (fun g hg=>(Mem.za5 h9 g (bH g hg)).1)⟩,fun g hg hg2=>h10 g (bM g hg) (bH g hg2)⟩;refine (gb b (by omega) (by omega) (fun e=>?_) (fun e=>?_)).trans (h7 b hb hl)
 ·have :=(Mem.za5 h8 b e).1;omega
 ·have :=(Mem.za5 h9 b e).1;omega
theorem SpV.where' {B:Nat} {V:World} {s:Pl.Sp} {q:Nat} {E:List (Int × Pl.Nv)} {ma:Option Addr} {mc:Nat} {ha:Option Addr} {hc:Nat} (h:SpV B V s q E ma mc ha hc):
  (∀g,(Value.slice ma s.M.length mc).ownBlock=some g→B≤g∧g<V.heap.size∧g≠q)∧(∀g,(Value.slice ha s.H.length hc).ownBlock=some g→B≤g∧g<V.heap.size∧g≠q)∧Mem.own3 50 Pl.Mn.cs V B (.slice ma s.M.length mc) s.M∧Mem.own3 87 Pl.Hn.cs V B (.slice ha s.H.length hc) s.H:=by
 obtain ⟨h1,h2,h3,⟨W1,h4,h5,h6,h7,h8,h9⟩,h10⟩:=h;refine ⟨fun g hg=>?_,fun g hg=>?_,Mem.zg5 h8 (by omega),Mem.zg5 h9 (by omega)⟩
 ·have :=Mem.za5 h8 g hg;exact ⟨by omega,this.2,by omega⟩
 ·have :=Mem.za5 h9 g hg;exact ⟨by omega,this.2,by omega⟩
end SpO
end
section
set_option linter.unusedSimpArgs false
open Go.RowKit Go.Maps
namespace WSpI
def keepF (M:List Pl.Mn) (H:List Pl.Hn) (d:Int):Bool:= !decide (Pl.held M H d=0)
end WSpI
end
section
open Go.RowKit Go.Maps
namespace WSpI
theorem keep_map (N:List Pl.Ns) (M:List Pl.Mn) (H:List Pl.Hn):(N.filter (fun x=>keepF M H x.d)).map Pl.Ns.r=Pl.keepN (N.map Pl.Ns.r) M H:=by
 unfold Pl.keepN;rw [List.filter_map];rfl
end WSpI
end
section
open Go.Shelf
namespace zl9
def keysR:Go.Shelf.Ren:=⟨fun |7=>68|10=>110|n=>n,fun |0=>0|3=>121|4=>4|23=>57|26=>2|27=>112|28=>113|33=>161|n=>n,fun n=>n⟩
set_option maxRecDepth 100000 in
theorem keysL:SlLaysZI.n7 Tryz.prog keysR where
 mixed:=by kernel_rfl
 f7:=⟨ "maps.Keys[map[int64]loop.example/g00449/impl.nest[loop.example/g00449/impl.treeItem],int64,loop.example/g00449/impl.nest[loop.example/g00449/impl.treeItem]]",by decide,Tryz.func68.trans (congrArg some (by kernel_rfl))⟩
 f10:=⟨ "maps.Keys[map[int64]loop.example/g00449/impl.nest[loop.example/g00449/impl.treeItem],int64,loop.example/g00449/impl.nest[loop.example/g00449/impl.treeItem]]$1",by decide,Tryz.func110.trans (congrArg some (by kernel_rfl))⟩
 t0:=Tryz.underlying0
 a0:=Tryz.isAgg0
 z0:=Tryz.sizeOf0
 v0:=Tryz.zeroValue0
 t4:=Tryz.underlying4
 a4:=Tryz.isAgg4
 z4:=Tryz.sizeOf4
 v4:=Tryz.zeroValue4
 t23:=Tryz.underlying57
 a23:=Tryz.isAgg57
 z23:=Tryz.sizeOf57
 v23:=Tryz.zeroValue57
 t26:=Tryz.underlying2
 a26:=Tryz.isAgg2
 z26:=Tryz.sizeOf2
 v26:=Tryz.zeroValue2
 t27:=Tryz.underlying112
 a27:=Tryz.isAgg112
 z27:=Tryz.sizeOf112
 v27:=Tryz.zeroValue112
 t28:=Tryz.underlying113
 a28:=Tryz.isAgg113
 z28:=Tryz.sizeOf113
 v28:=Tryz.zeroValue113
 t33:=Tryz.underlying161
 a33:=Tryz.isAgg161
 z33:=Tryz.sizeOf161
 v33:=Tryz.zeroValue161
def sortedR:Go.Shelf.Ren:=⟨fun |6=>67|8=>108|9=>109|11=>132|n=>n,fun |0=>0|24=>110|26=>2|28=>113|33=>161|n=>n,fun n=>n⟩
set_option maxRecDepth 100000 in
theorem sortedL:SlLaysZI.n6 Tryz.prog sortedR where
 mixed:=by kernel_rfl
 f6:=⟨ "slices.Sorted[int64]",by decide,Tryz.func67.trans (congrArg some (by kernel_rfl))⟩
 f8:=⟨ "slices.Collect[int64]",by decide,Tryz.func108.trans (congrArg some (by kernel_rfl))⟩
 f11:=⟨ "slices.AppendSeq[[]int64,int64]",by decide,Tryz.func132.trans (congrArg some (by kernel_rfl))⟩
 t0:=Tryz.underlying0
 a0:=Tryz.isAgg0
 z0:=Tryz.sizeOf0
 v0:=Tryz.zeroValue0
 t24:=Tryz.underlying110
 a24:=Tryz.isAgg110
 z24:=Tryz.sizeOf110
 v24:=Tryz.zeroValue110
 t26:=Tryz.underlying2
 a26:=Tryz.isAgg2
 z26:=Tryz.sizeOf2
 v26:=Tryz.zeroValue2
 t28:=Tryz.underlying113
 a28:=Tryz.isAgg113
 z28:=Tryz.sizeOf113
 v28:=Tryz.zeroValue113
 i26:=by kernel_rfl
def sortR:Go.Shelf.Ren:=⟨fun |5=>109|7=>133|8=>134|10=>150|11=>151|12=>152|13=>153|14=>154|15=>155|16=>156|17=>157|18=>158|19=>159|20=>160|30=>167|31=>168|32=>169|33=>170|34=>171|35=>172|40=>186|n=>n,fun |0=>0|3=>3|4=>4|5=>5|9=>9|22=>110|23=>110|25=>2|32=>187|35=>202|36=>203|41=>208|44=>211|46=>213|53=>221|57=>225|63=>239|64=>240|n=>n,fun n=>n⟩
set_option maxRecDepth 100000 in
theorem sortL:SlLaysM.n5 Tryz.prog sortR where
 mixed:=by kernel_rfl
 f5:=⟨ "slices.Sort[[]int64,int64]",by decide,Tryz.func109.trans (congrArg some (by kernel_rfl))⟩
 f7:=⟨ "slices.pdqsortOrdered[int64]",by decide,Tryz.func133.trans (congrArg some (by kernel_rfl))⟩
 f8:=Tryz.func134.trans (congrArg some (by kernel_rfl))
 f10:=⟨ "slices.insertionSortOrdered[int64]",by decide,Tryz.func150.trans (congrArg some (by kernel_rfl))⟩
 f11:=⟨ "slices.heapSortOrdered[int64]",by decide,Tryz.func151.trans (congrArg some (by kernel_rfl))⟩
 f12:=⟨ "slices.breakPatternsOrdered[int64]",by decide,Tryz.func152.trans (congrArg some (by kernel_rfl))⟩
 f13:=⟨ "slices.choosePivotOrdered[int64]",by decide,Tryz.func153.trans (congrArg some (by kernel_rfl))⟩
 f14:=⟨ "slices.reverseRangeOrdered[int64]",by decide,Tryz.func154.trans (congrArg some (by kernel_rfl))⟩
 f15:=⟨ "slices.partialInsertionSortOrdered[int64]",by decide,Tryz.func155.trans (congrArg some (by kernel_rfl))⟩
 f16:=⟨ "cmp.Less[int64]",by decide,Tryz.func156.trans (congrArg some (by kernel_rfl))⟩
 f17:=⟨ "slices.partitionEqualOrdered[int64]",by decide,Tryz.func157.trans (congrArg some (by kernel_rfl))⟩
 f18:=⟨ "slices.partitionOrdered[int64]",by decide,Tryz.func158.trans (congrArg some (by kernel_rfl))⟩
 f19:=Tryz.func159.trans (congrArg some (by kernel_rfl))
 f20:=Tryz.func160.trans (congrArg some (by kernel_rfl))
 f30:=⟨ "slices.siftDownOrdered[int64]",by decide,Tryz.func167.trans (congrArg some (by kernel_rfl))⟩
 f31:=Tryz.func168.trans (congrArg some (by kernel_rfl))
 f32:=Tryz.func169.trans (congrArg some (by kernel_rfl))
 f33:=⟨ "slices.medianAdjacentOrdered[int64]",by decide,Tryz.func170.trans (congrArg some (by kernel_rfl))⟩
 f34:=⟨ "slices.medianOrdered[int64]",by decide,Tryz.func171.trans (congrArg some (by kernel_rfl))⟩
 f35:=⟨ "cmp.isNaN[int64]",by decide,Tryz.func172.trans (congrArg some (by kernel_rfl))⟩
 f40:=⟨ "slices.order2Ordered[int64]",by decide,Tryz.func186.trans (congrArg some (by kernel_rfl))⟩
 t0:=Tryz.underlying0
 a0:=Tryz.isAgg0
 z0:=Tryz.sizeOf0
 v0:=Tryz.zeroValue0
 t3:=Tryz.underlying3
 a3:=Tryz.isAgg3
 z3:=Tryz.sizeOf3
 v3:=Tryz.zeroValue3
 t4:=Tryz.underlying4
 a4:=Tryz.isAgg4
 z4:=Tryz.sizeOf4
 v4:=Tryz.zeroValue4
 t5:=Tryz.underlying5
 a5:=Tryz.isAgg5
 z5:=Tryz.sizeOf5
 v5:=Tryz.zeroValue5
 t9:=Tryz.underlying9
 a9:=Tryz.isAgg9
 z9:=Tryz.sizeOf9
 v9:=Tryz.zeroValue9
 t22:=Tryz.underlying110
 a22:=Tryz.isAgg110
 z22:=Tryz.sizeOf110
 v22:=Tryz.zeroValue110
 t23:=Tryz.underlying110
 a23:=Tryz.isAgg110
 z23:=Tryz.sizeOf110
 v23:=Tryz.zeroValue110
 t25:=Tryz.underlying2
 a25:=Tryz.isAgg2
 z25:=Tryz.sizeOf2
 v25:=Tryz.zeroValue2
 t32:=Tryz.underlying187
 a32:=Tryz.isAgg187
 z32:=Tryz.sizeOf187
 v32:=Tryz.zeroValue187
 t35:=Tryz.underlying202
 a35:=Tryz.isAgg202
 z35:=Tryz.sizeOf202
 v35:=Tryz.zeroValue202
 t36:=Tryz.underlying203
 a36:=Tryz.isAgg203
 z36:=Tryz.sizeOf203
 v36:=Tryz.zeroValue203
 t41:=Tryz.underlying208
 a41:=Tryz.isAgg208
 z41:=Tryz.sizeOf208
 v41:=Tryz.zeroValue208
 t44:=Tryz.underlying211
 a44:=Tryz.isAgg211
 z44:=Tryz.sizeOf211
 v44:=Tryz.zeroValue211
 t46:=Tryz.underlying213
 a46:=Tryz.isAgg213
 z46:=Tryz.sizeOf213
 v46:=Tryz.zeroValue213
 t53:=Tryz.underlying221
 a53:=Tryz.isAgg221
 z53:=Tryz.sizeOf221
 v53:=Tryz.zeroValue221
 t57:=Tryz.underlying225
 a57:=Tryz.isAgg225
 z57:=Tryz.sizeOf225
 v57:=Tryz.zeroValue225
 t63:=Tryz.underlying239
 a63:=Tryz.isAgg239
 z63:=Tryz.sizeOf239
 v63:=Tryz.zeroValue239
 t64:=Tryz.underlying240
 a64:=Tryz.isAgg240
 z64:=Tryz.sizeOf240
 v64:=Tryz.zeroValue240
end zl9
end
section
open Go.RowKit Go.Maps Go.Sort Go.Shelf
namespace WKeys
theorem sorts (m:Nat):AnyZI.SortsIn Tryz.prog zl9.sortedR Fence.wide m:=
 ⟨fun blk off cap ss W hH hblk hsz=>callsIn_wide.2 (AnyM.slices_Sort_int zl9.sortL blk off cap ss W hH hblk hsz),
 fun p cap W=>callsIn_wide.2 (AnyM.slices_Sort_int_none zl9.sortL p cap W)⟩
theorem keys_any (mb:Option Nat) (W:World):Calls Tryz.prog 68 #[.map mb] W fun e w'=>e= .returned (.func (.func 110) #[] #[.pointer (some ⟨W.heap.size,0,none⟩)])∧w'=W.alloc (.cells #[.map mb] 57):=
 (callsIn_wide (n:=5)).1 (AnyZI.keys_in zl9.keysL Fence.wide 5 trivial rfl mb W)
theorem sorted_any (q n Bm:Nat) (D:DataW Value) (w:World) (hB:Bm<w.heap.size) (hm:w.cell? ⟨Bm,0,none⟩=some (.map (some q))) (hown:w.ownsMap Tryz.prog 2 MapI.elem q n D) (hmax:Maps.size D≤100):
  Calls Tryz.prog 67 #[.func (.func 110) #[] #[.pointer (some ⟨Bm,0,none⟩)]] w fun e w'=>∃ (v:Value) (ss:List Int),e= .returned v∧ss.Perm (intKeys D)∧
   w'.ownsRow w.heap.size 2 1 v ss.length ((ss.mergeSort (fun x y=>decide (x≤y))).map encZ)∧Below w.heap.size w w':=by
 have hseq:SeqGives Fence.wide 2 Tryz.prog 110 #[.pointer (some ⟨Bm,0,none⟩)] encZ (fun ss=>ss.Perm (intKeys D)) (Maps.size D) w:=
  AnyZI.keys_gives (ρ:=zl9.keysR) { zl9.keysL with } Fence.wide _ trivial rfl (by omega) Bm q n D _ hB hm hown
 have cS:=AnyZI.sorted_in zl9.sortedL Fence.wide 5 trivial trivial trivial trivial rfl (by omega) (sorts _) (enters_of Tryz.func109 (by kernel_rfl) rfl) 110 #[.pointer (some ⟨Bm,0,none⟩)] trivial (enters_of Tryz.func110 (by kernel_rfl) rfl) _ _ (by unfold maxLen;omega) (by omega) _ hseq;exact ((callsIn_wide (n:=5)).1 cS).mono fun e w' ⟨v,ss,h1,h2,h3,_,h5⟩=>⟨v,ss,h1,h2,h3,h5⟩
theorem size_le {w:World} {q n:Nat} {D:DataW Value} (h:w.ownsMap Tryz.prog 2 MapI.elem q n D):Maps.size D≤n:=by
 obtain ⟨es,clock,hb,F,hs,rfl⟩:=h;rw [Maps.size_eq,length_read];exact hs
theorem ids_perm {w:World} {q n:Nat} {E:List (Int × Value)} (h:w.ownsMap Tryz.prog 2 MapI.elem q n (MapI.mapOf E)) (hE:E.Pairwise (fun a b=>a.1≠b.1)):(E.map (·.1)).Perm (intKeys (MapI.mapOf E)):=by
 obtain ⟨es,hD,hpw,_⟩:=h.entries MapI.law;obtain ⟨es',hD',hko⟩:=h.keysOf;obtain rfl:es=es':=by rw [hD] at hD';simpa using hD'
 have hh:=fun x=>(MapI.look hE x (.int .i64 0)).1;rw [hD] at hh ⊢;refine perm_intKeys hpw (fun p hp=>?_) (by rw [List.Nodup,List.pairwise_map];exact hE) (fun x=>?_)
 ·obtain ⟨v,hv⟩:=hko p hp;obtain ⟨x,_,hx,_⟩:=Maps.keyOf_i64 Tryz.underlying2 hv;exact ⟨x,hx⟩
 ·have :=hh x;unfold MapI.key at this;rw [this,decide_eq_true_eq]
theorem ids_any (q n Bm:Nat) (E:List (Int × Value)) (w:World) (hn:n≤100) (hB:Bm<w.heap.size) (hm:w.cell? ⟨Bm,0,none⟩=some (.map (some q))) (hown:w.ownsMap Tryz.prog 2 MapI.elem q n (MapI.mapOf E)) (hp:(E.map (·.1)).Pairwise (· < ·)):
  Calls Tryz.prog 67 #[.func (.func 110) #[] #[.pointer (some ⟨Bm,0,none⟩)]] w fun e w'=>∃v:Value,e= .returned v∧
   w'.ownsRow w.heap.size 2 1 v E.length ((E.map (·.1)).map (Value.int .i64))∧Below w.heap.size w w':=by
 have hE:E.Pairwise (fun a b=>a.1≠b.1):=(List.pairwise_map.1 hp).imp (fun h=>by omega);have hpm:=ids_perm hown hE;refine (sorted_any q n Bm _ w hB hm hown (Nat.le_trans (size_le hown) hn)).mono fun e w' ⟨v,ss,h1,h2,h3,h4⟩=>⟨v,h1,?_,h4⟩;have e1:ss.Perm (E.map (·.1)):=h2.trans hpm.symm
 have e2:ss.mergeSort (fun x y=>decide (x≤y))=E.map (·.1):=by
  refine List.Perm.eq_of_pairwise (le:=fun a b:Int=>a<b∨a=b) (fun a b _ _ h1 h2=>by omega) ?_ (hp.imp (fun h=>Or.inl h)) ((List.mergeSort_perm ss _).trans e1);refine (List.pairwise_mergeSort (le:=fun x y:Int=>decide (x≤y)) (fun a b c h1 h2=>by simp only [decide_eq_true_eq] at *;omega) (fun a b=>by simp only [Bool.or_eq_true,decide_eq_true_eq];omega) ss).imp (fun h=>?_);simp only [decide_eq_true_eq] at h;omega
 have e3:ss.length=E.length:=by rw [e1.length_eq,List.length_map]
 rw [e2,e3] at h3;exact h3
end WKeys
end
section
open Go.RowKit Go.Maps
namespace WSpI
theorem items_nest (m:Option Nat) (n:Nat) (a:Option Addr) (cap:Nat) (R:List (Int × List Pl.Nd)) (B:Nat) (w:World) (h:Mem.zh0 w B ⟨m,n,a,cap⟩ R) (hl:R.length≤12):
  Calls Tryz.prog 69 #[.agg #[.map m, .int .i64 (n:Int), .slice a n cap]] w fun e w'=>∃v' Is,e= .returned v'∧Mem.Io w' w.heap.size v' Is∧Is.map Pl.It.r=R∧Below w.heap.size w w':=by
 obtain ⟨L,k,q,h1,h2,⟨⟨h3,h4⟩,h5⟩,⟨h6,h7⟩,h8⟩:=h;simp only at h1 h2 h4 h8;subst h1 h2
 have hk:k.sz<1000:=by
  have :=congrArg List.length h7;rw [Pl.Fx.flat_len,Pl.Fx.sz,Pl.Fx.sz] at this;omega
 refine (WItemsOf.items_of 1000 (Nat.le_refl _) _ k L (some q) (k.len:Int) (.slice a k.len cap) w hk h6.1 h6.2.2.2.1 (.inl ⟨q,rfl,h5⟩) h8).mono fun e w' ⟨v',Is,g1,g2,g3,g4⟩=>⟨v',Is,g1,g2,?_,g4⟩;rw [g3,←h7];simp [Pl.Fx.flat]
end WSpI
end
section
open Go.RowKit
namespace Mem
theorem yc1 {P:Program} (w:World) (base:Nat) (t ty e:TypeId) (i:TypeInfo) (z:Value) (size bytes:Nat) (ht:P.underlying t=some (.slice e)) (hi:P.info? e=some i) (hz:i.zero=some z)
  (hsize:i.size=size) (hby:i.bytes=bytes) (hzs:z.cells.size=size) (hsz:0<size)
  (v:Value) (n:Nat) (xs:List Value) (hown:w.ownsRow base e size v n xs)
  (va:Option Addr) (m c:Nat) (news:List Value) (hl:news.length=m*size) (hsrc:(∃a,va=some a∧∀j u,news[j]? =some u→w.cell? (a.add j)=some u)∨(va=none∧m=0)) (h1:∀u∈news,u.oneCell'=true)
  (h63:n+m≤maxLen) (hbytes:(n+m)*bytes≤140737488355328) (hbase:base≤w.heap.size):
  ∃v' w',(Builtin.append_ #[t,t] ty #[v, .slice va m c]).run P w= .ok v' w'∧w'.ownsRow base e size v' (n+m) (xs++news)∧w.grownBy w' v.ownBlock∧∀g,v'.ownBlock=some g→v.ownBlock=some g∨w.heap.size≤g:=by
 rcases hsrc with ⟨a,rfl,hnews⟩|⟨rfl,rfl⟩
 ·exact zt8 w base t ty e i z size bytes ht hi hz hsize hby hzs hsz v n xs hown a m c news hl hnews h1 h63 hbytes hbase
 ·have hn:news=[]:=List.eq_nil_of_length_eq_zero (by rw [hl,Nat.zero_mul]);subst hn
  have hv:∃b cap,v= .slice b n cap∧n≤cap:=by
   rcases hown.2 with ⟨rfl,rfl⟩|⟨g,cap,cur,rfl, -, -,hc, -⟩
   ·exact ⟨none,0,rfl,Nat.le_refl _⟩
   ·exact ⟨_,cap,rfl,hc⟩
  obtain ⟨b,cap,rfl,hc⟩:=hv;refine ⟨_,w,run_append_nothing w t t ty e i ht hi b n cap hc (.slice none 0 c) (Src.ofNil w ht c),?_,zb8 (Below.refl _ _) _,fun g hg=> .inl hg⟩;rw [List.append_nil,Nat.add_zero];exact hown
theorem za1 {P:Program} {ops:Array Oper} {o:Oper} {a:Act} {w:World} {K:Act→World→Prop} {Q:Exit→Act→World→Prop} {E:Prop}
  (hg:o.guard=none) (s x:Operand) (t:TypeId) (hop:o.op=Op.call { callee:=Callee.builtin Builtin.append,args:=#[s,x],argTypes:=#[t,t] })
  (base:Nat) (e:TypeId) (i:TypeInfo) (z:Value) (size bytes:Nat) (h1:P.underlying t=some (.slice e)) (h2:P.info? e=some i) (h3:i.zero=some z) (h4:i.size=size) (h5:i.bytes=bytes) (h6:z.cells.size=size) (h7:0<size)
  (v:Value) (n:Nat) (xs:List Value) (hs:a.eval s=v) (hown:w.ownsRow base e size v n xs)
  (va:Option Addr) (m c:Nat) (news:List Value) (hx:a.eval x= .slice va m c) (hn:news.length=m*size) (hc:(∃a,va=some a∧∀j u,news[j]? =some u→w.cell? (a.add j)=some u)∨(va=none∧m=0)) (h1c:∀u∈news,u.oneCell'=true)
  (b1:n+m≤maxLen) (b2:(n+m)*bytes≤140737488355328) (hbase:base≤w.heap.size)
  (hK:∀v' w',w'.ownsRow base e size v' (n+m) (xs++news)→w.grownBy w' v.ownBlock→(∀g,v'.ownBlock=some g→v.ownBlock=some g∨w.heap.size≤g)→K (a.put o.dst v') w'):
  if Region.wanted o (yielded ops a.tmps)=true then Oper.wp P o a w K Q else E:=by
 have hw:Region.wanted o (yielded ops a.tmps)=true:=by simp [Region.wanted,hg]
 rw [if_pos hw];obtain ⟨v',w',hrun,r1,r2,r3⟩:=yc1 (P:=P) w base t o.type e i z size bytes h1 h2 h3 h4 h5 h6 h7 v n xs hown va m c news hn hc h1c b1 b2 hbase;unfold Oper.wp;simp [execOp,hop,resolve,invoke,builtin,hs,hx,hrun,Result.andThen]
 exact hK v' w' r1 r2 r3
end Mem
end
end Go.Proofs.YtonffldjbmednaaGreatDoor
