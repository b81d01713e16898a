import Derived.Test.YtpggbphcbcogdaaGreatDoorPlainRise
import Derived.Lib.SlicesCompact
import Derived.Sort.Walk0
namespace Go.Proofs.YtpggbphcbcogdaaGreatDoor
open Go.RowKit
namespace Pl
theorem le_dec (x y:List UInt8):decide (x≤y)= !Op.bytesLess y x:=by
 rw [bytesLess_eq];by_cases h:y<x
 ·rw [decide_eq_true h,decide_eq_false (fun h2=>h2 h)];rfl
 ·rw [decide_eq_false h,decide_eq_true (show x≤y from h)];rfl
theorem le_trans3 (a b c:List UInt8) (h1:Op.bytesLess b a=false) (h2:Op.bytesLess c b=false):Op.bytesLess c a=false:=by
 cases h:Op.bytesLess c a with
 |false=>rfl
 |true=>
  by_cases e:a=b
  ·subst e;rw [h2] at h;cases h
  ·have h3:=zh6 a b e;rw [h1] at h3;have h4:=bytes_trans _ _ _ h h3;rw [h2] at h4;cases h4
theorem lt_of (a b c:List UInt8) (h1:Op.bytesLess b a=false) (h2:Op.bytesLess c b=false) (hne:c≠b):Op.bytesLess a c=true:=by
 have h3:=zh6 b c (fun e=>hne e.symm);rw [h2] at h3;by_cases e:a=b
 ·subst e;exact h3
 ·have h4:=zh6 a b e;rw [h1] at h4;exact bytes_trans _ _ _ h4 h3
theorem compact_ok (zs:List (List UInt8)) (h:zs.Pairwise (fun a b=>Op.bytesLess b a=false)):(Lib.compact zs).Pairwise (fun a b=>Op.bytesLess a b=true)∧(∀x,x∈Lib.compact zs↔x∈zs):=by
 have key:∀m,m≤zs.length→(Lib.compactUpTo zs.toArray m).Pairwise (fun a b=>Op.bytesLess a b=true)∧∀x,x∈Lib.compactUpTo zs.toArray m↔x∈zs.take m:=by
  intro m
  induction m with
  |zero=>intro _;exact ⟨List.Pairwise.nil,fun x=>by simp [Lib.compactUpTo]⟩
  |succ m ih=>
   intro hm;obtain ⟨h1,h2⟩:=ih (by omega);have hlt:m<zs.length:=by omega
   have hg:zs.toArray[m]! =zs[m]:=by simp [getElem!_pos,hlt]
   rw [Lib.compactUpTo_succ,List.take_succ_eq_append_getElem hlt,hg];by_cases hk:Lib.keeps zs.toArray m=true
   ·rw [if_pos hk];refine ⟨List.pairwise_append.2 ⟨h1,List.pairwise_singleton _ _,fun a ha b hb=>?_⟩,fun x=>by rw [List.mem_append,List.mem_append,h2]⟩;rw [List.mem_singleton] at hb;subst hb;obtain ⟨j,hj,e⟩:=List.getElem_of_mem ((h2 a).1 ha);rw [List.length_take] at hj;rw [List.getElem_take] at e;have hkk:m=0∨zs.toArray[m]! ≠zs.toArray[m - 1]! :=by simpa [Lib.keeps] using hk
    have hm0:zs[m]≠zs[m - 1]:=by
     rcases hkk with h0|h0
     ·omega
     ·simpa [getElem!_pos,hlt,show m - 1<zs.length by omega] using h0
    have p:=List.pairwise_iff_getElem.1 h;have q1:=p (m - 1) m (by omega) hlt (by omega);by_cases hjm:j=m - 1
    ·subst hjm;rw [←e];exact lt_of _ _ _ (zq5 _) q1 hm0
    ·have q2:=p j (m - 1) (by omega) (by omega) (by omega);rw [←e];exact lt_of _ _ _ q2 q1 hm0
   ·rw [if_neg hk];rw [List.append_nil];have hkk:¬ (m=0∨zs.toArray[m]! ≠zs.toArray[m - 1]!):=by simpa [Lib.keeps] using hk
    have hm1:m≠0:=fun e=>hkk (.inl e)
    have he:zs[m]=zs[m - 1]:=by
     have :zs.toArray[m]! =zs.toArray[m - 1]! :=Classical.byContradiction fun e=>hkk (.inr e)
     simpa [getElem!_pos,hlt,show m - 1<zs.length by omega] using this
    refine ⟨h1,fun x=>?_⟩;rw [h2,List.mem_append,List.mem_singleton];refine ⟨.inl,fun hx=>?_⟩
    rcases hx with hx|hx
    ·exact hx
    ·subst hx;rw [he];exact List.mem_take_iff_getElem.2 ⟨m - 1,by omega,rfl⟩
 have h5:=key zs.length (Nat.le_refl _);rw [List.take_length] at h5;exact h5
def outL (ys:List ByteArray):List ByteArray:=(Lib.compact ((ys.map (fun t=>t.data.toList)).mergeSort fun x y=>decide (x≤y))).map (fun l=>⟨l.toArray⟩)
theorem out_ok (ys:List ByteArray):Rise (outL ys)∧∀t,t∈outL ys↔t∈ys:=by
 have hs:((ys.map (fun t:ByteArray=>t.data.toList)).mergeSort fun x y=>decide (x≤y)).Pairwise (fun a b=>Op.bytesLess b a=false):=by
  have h0:=List.pairwise_mergeSort (le:=fun x y:List UInt8=>decide (x≤y)) (fun a b c h1 h2=>by
   rw [le_dec] at h1 h2 ⊢;rw [le_trans3 a b c (by simpa using h1) (by simpa using h2)]
   rfl) (fun a b=>by
   rw [le_dec,le_dec];by_cases e:a=b
   ·subst e;rw [zq5];rfl
   ·rw [zh6 a b e];cases Op.bytesLess b a <;> rfl) (ys.map (fun t:ByteArray=>t.data.toList))
  exact h0.imp (fun {a b} h=>by rw [le_dec] at h;simpa using h)
 obtain ⟨h1,h2⟩:=compact_ok _ hs;refine ⟨?_,fun t=>?_⟩
 ·unfold Rise outL;refine List.pairwise_map.2 (h1.imp (fun {a b} h=>?_));show Op.bytesLess (ByteArray.toList ⟨a.toArray⟩) (ByteArray.toList ⟨b.toArray⟩)=true;rw [ByteArray.toList_eq,ByteArray.toList_eq];exact h
 ·unfold outL;rw [List.mem_map]
  constructor
  ·rintro ⟨l,hl,rfl⟩;rw [h2,List.mem_mergeSort,List.mem_map] at hl;obtain ⟨t,ht,rfl⟩:=hl;exact ht
  ·intro ht;exact ⟨t.data.toList,by rw [h2,List.mem_mergeSort];exact List.mem_map.2 ⟨t,ht,rfl⟩,rfl⟩
end Pl
end Go.Proofs.YtpggbphcbcogdaaGreatDoor
