import Derived.Test.YtpggbphcbcogdaaGreatDoorPlain
import Derived.Below
import Derived.WalkKit
import Derived.Laws.IdiomStrings
namespace Go.Proofs.YtpggbphcbcogdaaGreatDoor
open Go.RowKit
namespace Mem
theorem add_lit (b j:Nat):(⟨b,0,none⟩:Addr).add j=⟨b,j,none⟩:=by unfold Addr.add;split <;> simp_all

theorem row_text {P:Program} {src dst e:TypeId} (hs:P.underlying src=some (.slice e)) (he:P.underlying e=some (.int .u8)) (hd:P.underlying dst=some .string)
  {w:World} {g n cap:Nat} {cur:Array Value} {t:TypeId} (l:List UInt8) (hn:l.length=n) (hg:w.heap[g]? =some (.cells cur t (0,0))) (ht:cur.toList.take n=l.map Pl.zd3):
  (convert src dst (.slice (some ⟨g,0,none⟩) n cap)).run P w= .ok (.string ⟨l.toArray⟩) w:=by
 subst hn;refine run_convert_bytes_back w src dst e ⟨g,0,none⟩ cap l hs he hd (fun j hj=>?_);rw [add_lit,cell_of_row w g j cur t (0,0) hg];have h1:(cur.toList.take l.length)[j]? =(l.map Pl.zd3)[j]?:=by rw [ht]
 rw [List.getElem?_take_of_lt (by omega)] at h1
 simpa [Pl.zd3,hj] using h1

theorem ze0 {B:Nat} {a w w1:World} {o:Obj} {e:TypeId} {size n:Nat} {v:Value} {xs:List Value} (h:Below B a w) (hB:B≤a.heap.size) (hown:w.ownsRow B e size v n xs) (hg:(w.alloc o).grownBy w1 v.ownBlock):Below B a w1:=
 have hs:=h.size
 (h.alloc (by omega) o).grown hg (by simp;omega) (fun k hk=>(hown.lt k hk).1)

theorem zd0 (w:World) (v:Value) (e:TypeId):∀j u,[v][j]? =some u→(w.alloc (.cells #[v] e)).cell? ((⟨w.heap.size,0,none⟩:Addr).add j)=some u:=by
 intro j u hj
 match j,hj with
 |0,hj=>simp at hj;subst hj;rw [add_lit];simp
 |j+1,hj=>simp at hj
theorem zd5 {w:World} {g j:Nat} {cur:Array Value} {t:TypeId} (hg:w.heap[g]? =some (.cells cur t (0,0))):w.frozen? ⟨g,j,none⟩=false:=by
 simp [World.frozen?,hg]
def zeros (n:Nat):Array Value:=madeCells (Value.int .u8 0).cells n
theorem zeros_size (n:Nat):(zeros n).size=n:=size_madeCells _ _
theorem make_bytes {P:Program} {T E:TypeId} (ht:P.underlying T=some (.slice E)) (hi:(P.info? E).map (fun i=>(i.zero,i.size,i.bytes))=some (some (.int .u8 0),1,1)) (n:Nat) (hn:n≤1000000000) (w:World):
  (Instr.makeSlice T (.int .i64 (n:Int)) (.int .i64 (n:Int))).run P w= .ok (.slice (some ⟨w.heap.size,0,none⟩) n n) (w.alloc (.cells (zeros n) E)):=by
 obtain ⟨i0,h0,h1,h2,h3⟩:=info_parts hi;have h:=run_make (P:=P) w T E i0 (.int .u8 0) ht h0 h1 .i64 .i64 (n:Int) (n:Int) (by omega) (Int.le_refl _) (by rw [h3];omega) (by omega);rw [h,h2];simp [zeros]

theorem bytes_one (l:List UInt8):∀v∈l.map Pl.zd3,v.oneCell'=true:=by
 intro v hv;obtain ⟨b,_,rfl⟩:=List.mem_map.1 hv;rfl
theorem copy_on {P:Program} {dT sT E:TypeId} (hu:P.underlying dT=some (.slice E)) (hz:∀w,(sizeOf E).run P w= .ok 1 w) (w:World) (B p N:Nat) (cur:Array Value)
  (hB:w.heap[B]? =some (.cells cur E (0,0))) (hc:cur.size=N) (t:ByteArray) (hfit:p+t.size≤N):
  ∃D w',(∀wx,(Instr.slice dT (.slice (some ⟨B,0,none⟩) N N) (some (.int .i64 (p:Int))) none none).run P wx= .ok D wx)∧
   (∀ty,(Builtin.copy_ #[dT,sT] ty #[D, .string t]).run P w= .ok (.int .i64 (t.size:Int)) w')∧
   w'.heap[B]? =some (.cells (cur.toList.take p++t.data.toList.map Pl.zd3++cur.toList.drop (p+t.size)).toArray E (0,0))∧Below B w w':=by
 have ht:P.underlying dT=some (.slice (P.elem dT)):=by simp [Program.elem,hu]
 have he:P.elem dT=E:=by simp [Program.elem,hu]
 have hsl:∀wx,(Instr.slice dT (.slice (some ⟨B,0,none⟩) N N) (some (.int .i64 (p:Int))) none none).run P wx= .ok (sliced (some ⟨B,0,none⟩) p N N 1) wx:=by
  intro wx;have h:=run_slice_l (P:=P) wx dT (some ⟨B,0,none⟩) N N ht .i64 (p:Int) (by omega) (by omega);rw [h,he,hz];rfl
 by_cases hp:p=N
 ·subst hp;have h0:t.size=0:=by omega
  have hd:t.data=#[]:=Array.eq_empty_of_size_eq_zero h0;refine ⟨.slice (some ⟨B,0,none⟩) 0 0,w,?_,?_,?_,Below.refl _ _⟩
  ·intro wx;rw [hsl];simp [sliced]
  ·intro ty;simp [Builtin.copy_,run_underlying hu,Builtin.lenOf,Builtin.firstCells,hz,h0,goInt,storeCells]
  ·rw [hB,h0,hd];simp
 ·have hlt:p<N:=by omega
  have hlen:(t.data.toList.map Pl.zd3).length=t.size:=by rw [List.length_map];rfl
  have hst:=run_storeCells_at P B p E (t.data.toList.map Pl.zd3) 0 cur w hB (by rw [hlen];omega) (bytes_one _);rw [hlen] at hst;simp only [Nat.add_zero] at hst;refine ⟨.slice (some ⟨B,p,none⟩) (N - p) (N - p),_,?_,?_,setRow_heap w B cur _ E _ hB,?_⟩
  ·intro wx;rw [hsl];have h1:¬N=p:=fun h=>hp h.symm;simp [sliced,h1,add_lit]
  ·intro ty;have hmin:Nat.min t.size (N - p)=t.size:=Nat.min_eq_left (by omega)
   have htk:List.take t.size (List.map (fun b:UInt8=>Value.int IntKind.u8 (b.toNat:Int)) t.data.toList)=t.data.toList.map Pl.zd3:=by
    rw [List.take_of_length_le (by rw [List.length_map];exact Nat.le_refl _)];rfl
   simp [Builtin.copy_,run_underlying hu,Builtin.lenOf,Builtin.firstCells,hz,hmin]
   rw [htk,hst,List.append_assoc];rfl
  ·exact ⟨rfl,rfl,rfl,by simp,fun k hk=>setRow_other w B k _ (by omega)⟩
theorem zf9 {w:World} {B B' e size n:Nat} {v:Value} {xs:List Value} (h:w.ownsRow B e size v n xs) (hb:B'≤B):w.ownsRow B' e size v n xs:=by
 refine ⟨h.1,?_⟩
 rcases h.2 with h0|⟨g,cap,cur,hv,hg,rest⟩
 ·exact .inl h0
 ·exact .inr ⟨g,cap,cur,hv,Nat.le_trans hb hg,rest⟩
theorem zh8 {w:World} {B e size n:Nat} {v:Value} {xs:List Value} (h:w.ownsRow B e size v n xs):∃a cap,v= .slice a n cap:=by
 rcases h.2 with ⟨rfl,rfl⟩|⟨g,cap,cur,rfl,_⟩
 ·exact ⟨_,_,rfl⟩
 ·exact ⟨_,_,rfl⟩
end Mem
end Go.Proofs.YtpggbphcbcogdaaGreatDoor
