import Derived.Test.YtpggbphcbcogdaaGreatDoorPlainTree
import Derived.Test.YtpggbphcbcogdaaGreatDoorPlainLaw
import Derived.Test.YtpggbphcbcogdaaGreatDoorPlainNames
import Derived.Test.YtpggbphcbcogdaaGreatDoorPlainNamesK
namespace Go.Proofs.YtpggbphcbcogdaaGreatDoor
open Go.RowKit
namespace Pl
theorem zv6 {a b c:ByteArray} (h1:zi5 a b=true) (h2:zi5 b c=true):zi5 a c=true:=bytes_trans _ _ _ h1 h2
theorem zu5 (a:ByteArray):zi5 a a=false:=zq5 _
theorem lessT_tot {a b:ByteArray} (h:a≠b) (h2:zi5 a b=false):zi5 b a=true:=by
 have h3:=zh6 a.toList b.toList (fun e=>h (by have :=zj0.tl_eq h;rw [e] at this;simp at this));unfold zi5 at h2 ⊢;rw [h2] at h3;cases h4:Op.bytesLess b.toList a.toList
 ·rw [h4] at h3;cases h3
 ·rfl
def Rise (l:List ByteArray):Prop:=l.Pairwise (fun a b=>zi5 a b=true)
theorem ins_mem (t x:ByteArray):∀l:List ByteArray,x∈insN t l↔x=t∨x∈l:=by
 intro l
 induction l with
 |nil=>simp [insN]
 |cons a l ih=>
  rw [insN]
  split
  ·rw [List.mem_cons,ih,List.mem_cons]
   constructor
   ·rintro (h|h|h)
    ·exact .inr (.inl h)
    ·exact .inl h
    ·exact .inr (.inr h)
   ·rintro (h|h|h)
    ·exact .inr (.inl h)
    ·exact .inl h
    ·exact .inr (.inr h)
  ·split
   ·rename_i e
    subst e;simp
   ·simp
theorem ins_rise (t:ByteArray):∀l:List ByteArray,Rise l→Rise (insN t l):=by
 intro l
 induction l with
 |nil=>intro _;exact List.pairwise_singleton _ _
 |cons a l ih=>
  intro h;have h':=List.pairwise_cons.1 h;rw [insN]
  split
  ·rename_i hlt
   refine List.pairwise_cons.2 ⟨fun x hx=>?_,ih h'.2⟩
   rcases (ins_mem t x l).1 hx with e|e
   ·rw [e];exact hlt
   ·exact h'.1 x e
  ·rename_i hlt
   split
   ·exact h
   ·rename_i hne
    have hta:zi5 t a=true:=lessT_tot (fun e=>hne e) (by simpa using hlt);refine List.pairwise_cons.2 ⟨fun x hx=>?_,h⟩
    rcases List.mem_cons.1 hx with e|e
    ·rw [e];exact hta
    ·exact zv6 hta (h'.1 x e)
theorem insAll_ok:∀ (K out:List ByteArray),Rise out→Rise (insAll out K)∧∀x,x∈insAll out K↔x∈out∨x∈K:=by
 intro K
 induction K with
 |nil=>intro out h;exact ⟨h,fun x=>by simp [insAll]⟩
 |cons t K ih=>
  intro out h;obtain ⟨h1,h2⟩:=ih (insN t out) (ins_rise t out h);refine ⟨h1,fun x=>?_⟩;show x∈insAll (insN t out) K↔_;rw [h2,ins_mem,List.mem_cons]
  constructor
  ·rintro ((h|h)|h)
   ·exact .inr (.inl h)
   ·exact .inl h
   ·exact .inr (.inr h)
  ·rintro (h|h|h)
   ·exact .inl (.inr h)
   ·exact .inl (.inl h)
   ·exact .inr h
end Pl
end Go.Proofs.YtpggbphcbcogdaaGreatDoor
