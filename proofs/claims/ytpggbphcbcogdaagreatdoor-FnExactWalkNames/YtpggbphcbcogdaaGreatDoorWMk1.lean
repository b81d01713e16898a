import Derived.Test.YtpggbphcbcogdaaGreatDoorMem
import Derived.Deep.Draws
import Derived.Test.YtpggbphcbcogdaaGreatDoorProg
import Derived.WalkSpells
import Derived.Deep.QuietTactic
import Derived.BigQuiet
import Derived.Deep.RegionHeld3
namespace Go.Proofs.YtpggbphcbcogdaaGreatDoor
open Go.RowKit
namespace Pl
def decF:Nat→Nat→List UInt8→List UInt8
 |0,_,out=>out
 |f+1,k,out=>if k=0 then out else decF f (k / 10) (UInt8.ofNat (48+k % 10)::out)
theorem decF_zero (f:Nat) (out:List UInt8):decF f 0 out=out:=by cases f <;> simp [decF]
theorem decF_step {f k:Nat} (h:0<k) (out:List UInt8):decF (f+1) k out=decF f (k / 10) (UInt8.ofNat (48+k % 10)::out):=by
 rw [decF,if_neg (by omega)]
def mark (k:Nat):ByteArray:=⟨(109::decF k k []).toArray⟩
def marks (k:Nat):Nat→List ByteArray
 |0=>[]
 |n+1=>marks k n++[mark (k+n)]
theorem zh5 (k n:Nat):(marks k n).length=n:=by
 induction n with
 |zero=>rfl
 |succ n ih=>rw [marks,List.length_append,ih];rfl
theorem marks_get (k:Nat):∀n j,j<n→(marks k n)[j]? =some (mark (k+j)):=by
 intro n
 induction n with
 |zero=>intro j h;omega
 |succ n ih=>
  intro j h;rw [marks];by_cases hj:j<n
  ·rw [List.getElem?_append_left (by rw [zh5];exact hj)];exact ih j hj
  ·obtain rfl:j=n:=by omega
   rw [List.getElem?_append_right (by rw [zh5];exact Nat.le_refl _),zh5,Nat.sub_self];rfl
end Pl
namespace zo3
set_option maxRecDepth 100000 in
set_option maxHeartbeats 400000 in
theorem zm6 (K:Nat) (w:World) (h0:0<K) (hK:K≤9000000000000000000):
  Calls Tryz.prog 27 #[.int .i64 (K:Int)] w fun e w'=>e= .returned (.string (Pl.mark K))∧Below w.heap.size w w':=by
 have p1:¬ (K:Int)≤0:=by omega
 go_enter Tryz.func27,Tryz.ntmps27
 go_wp2
 go_loopw [0,3] (fun a o wr=>∃ (f k:Nat) (out:List UInt8),k≤f∧out.length+k≤K∧a= .int .i64 (k:Int)∧o= .string ⟨out.toArray⟩∧Below w.heap.size w wr∧Hid (Pl.decF f k out=Pl.decF K K [])) (fun a _ _=>(intOf a).toNat)
 case atStart=>exact ⟨K,K,[],Nat.le_refl _,by simp,rfl,rfl,Below.refl _ _,rfl⟩
 case round=>
  obtain ⟨f,k,out,hf,hk,rfl,rfl,hbel,HD⟩:=hrel;have hsz:=hbel.size;have ho:¬9223372036854775807<1+out.length:=by omega
  by_cases hk0:0<k
  ·obtain ⟨f,rfl⟩:∃g,f=g+1:=⟨f - 1,by omega⟩;have HD2:Hid (Pl.decF f (k / 10) (UInt8.ofNat (48+k % 10)::out)=Pl.decF K K []):=(Pl.decF_step hk0 out).symm.trans HD.out;have p2:(0:Int)<(k:Int):=by omega
   clear HD
   have hb:((UInt8.ofNat (48+k % 10)).toNat:Int)=48+(k:Int) % 10:=by
    rw [UInt8.toNat_ofNat_of_lt' (by show 48+k % 10<256;omega)];omega
   have hcv:=Mem.row_text (P:=Tryz.prog) (w:=wr.alloc (.cells #[.int .u8 (48+(k:Int) % 10)] 5)) (n:=1) (cap:=1) Tryz.underlying96 Tryz.underlying5 Tryz.underlying9 [UInt8.ofNat (48+k % 10)] rfl (heap_alloc_new wr _) (by simp only [List.map_cons,List.map_nil,Pl.zd3,hb];rfl)
   have HX:Hid ((⟨[UInt8.ofNat (48+k % 10)].toArray⟩:ByteArray)++(⟨out.toArray⟩:ByteArray)=⟨(UInt8.ofNat (48+k % 10)::out).toArray⟩):=by
    show _=_;rw [Pl.zx6];rfl
   have hbel2:=hbel.alloc hsz (.cells #[.int .u8 (48+(k:Int) % 10)] 5);generalize UInt8.ofNat (48+k % 10)=b at hcv HX HD2;clear hb;go_wp2
   go_roundw
   case rel=>exact ⟨f,k / 10,b::out,by omega,by simp;omega,by go_num,congrArg Value.string HX.out,hbel2,HD2⟩
   case measure=>simp [intOf];omega
  ·have HD2:Hid (out=Pl.decF K K []):=by
    obtain rfl:k=0:=by omega
    exact (Pl.decF_zero f out).symm.trans HD.out
   have p2:¬ (0:Int)<(k:Int):=by omega
   have HX:Hid ((⟨#[109]⟩:ByteArray)++(⟨out.toArray⟩:ByteArray)=Pl.mark K):=by
    show _=_;rw [Pl.mark,←HD2.out];exact Pl.zx6 [109] ⟨out.toArray⟩
   clear HD;go_wp2
   go_ret
   exact ⟨congrArg (fun x=>Ending.returned (.string x)) HX.out,hbel⟩
end zo3
end Go.Proofs.YtpggbphcbcogdaaGreatDoor
