/- Several texts of one claim in one file: WName4, MemApp2, WOwnI. -/
import Derived.Test.YtpggbphcbcogdaaGreatDoorG12
import Derived.Test.YtpggbphcbcogdaaGreatDoorG06
import Derived.Deep.Cut
namespace Go.Proofs.YtpggbphcbcogdaaGreatDoor
section
open Go.RowKit
namespace ze9
theorem zk5:(Tryz.prog.info? 9).map (fun i=>(i.zero,i.size,i.bytes))=some (some (.string ⟨#[]⟩),1,16):=by kernel_rfl
def Txt (w:World) (B:Nat) (v:Value) (l:List ByteArray):Prop:=w.ownsRow B 9 1 v l.length (l.map Value.string)
theorem Txt.cell {w:World} {B g n cap:Nat} {l:List ByteArray} (h:Txt w B (.slice (some ⟨g,0,none⟩) n cap) l) {k:Nat} {x:ByteArray} (hk:l[k]? =some x):w.cell? ⟨g,k,none⟩=some (.string x):=by
 have :=World.ownsRow.cells h (g:=g) rfl k (.string x) (by simp [hk]);rw [Mem.add_lit] at this;exact this
set_option linter.unusedSimpArgs false in
set_option maxRecDepth 100000 in
set_option maxHeartbeats 1000000 in
theorem any (B g cap:Nat) (l:List ByteArray) (t:ByteArray) (w:World) (hl:l.length≤1000) (hB:B≤w.heap.size) (hown:Txt w B (.slice (some ⟨g,0,none⟩) l.length cap) l):
  Calls Tryz.prog 20 #[.slice (some ⟨g,0,none⟩) l.length cap, .string t] w fun e w'=>∃g' cap',e= .returned (.slice (some ⟨g',0,none⟩) (Pl.insN t l).length cap')∧Txt w' B (.slice (some ⟨g',0,none⟩) (Pl.insN t l).length cap') (Pl.insN t l)∧Below w.heap.size w w':=by
 obtain ⟨i0,hi,hz0,hz1,hz2⟩:=info_parts zk5;have HO:=hide hown;have HIN:=hide (Pl.ins_at t l)
 have hcap:l.length≤cap:=by
  rcases hown.2 with ⟨h,_⟩|⟨g',cap',cur,h,_,_,h2,_⟩
  ·cases h
  ·injection h with _ _ h3;omega
 clear hown;go_enter Tryz.func20,Tryz.ntmps20
 go_wp2
 go_loop [5] (fun i=>∃k:Nat,k≤l.length∧i= .int .i64 (k:Int)∧Hid (∀ (j:Nat) x,j<k→l[j]? =some x→Pl.zi5 x t=true)) (fun i=>l.length - (intOf i).toNat)
 case atStart=>exact ⟨0,Nat.zero_le _,rfl,fun j x h=>absurd h (by omega)⟩
 case round=>
  obtain ⟨k,hk,rfl,HK⟩:=hrel;have y3:(0:Int)≤(k:Int):=by omega
  by_cases hlt:k<l.length
  ·obtain ⟨x,hx⟩:∃x,l[k]? =some x:=⟨_,List.getElem?_eq_getElem hlt⟩;have c0:=(za HO).cell hx;have y1:(k:Int)<(l.length:Int):=by omega
   cases hle:Pl.zi5 x t
   ·have t1:Op.bytesLess x.toList t.toList=false:=hle;by_cases e:x=t
    ·have t2:(x.toList==t.toList)=true:=by rw [e];simp
     have EI:Hid (Pl.insN t l=l):=by
      show _=_;rw [za HIN k (za HK) (fun y hy=>by rw [hx] at hy;cases hy;exact hle) hk,if_pos (by rw [hx,e])]
     clear hle e hx HK HIN;go_wp2
     go_ret
     exact ⟨g,cap,by rw [za EI];rfl,by rw [za EI];exact za HO,Below.refl _ _⟩
    ·have t2:(x.toList==t.toList)=false:=zj0.tl_eq e
     have EI:Hid (Pl.insN t l=l.take k++[t]++l.drop k):=by
      show _=_;rw [za HIN k (za HK) (fun y hy=>by rw [hx] at hy;cases hy;exact hle) hk,if_neg (by rw [hx];intro h;cases h;exact e rfl)]
     have HL0:=hide (fun W' (b:Below w.heap.size w W')=>Mem.zc8 (za HO) b);have OA0:Hid (Txt (w.alloc (.cells #[] 9)) w.heap.size (.slice (some ⟨w.heap.size,0,none⟩) 0 0) []):=⟨rfl, .inr ⟨w.heap.size,0,#[],rfl,Nat.le_refl _,heap_alloc_new _ _,Nat.le_refl _,Nat.zero_le _,rfl,rfl⟩⟩;have BA0:=hide ((Below.refl w.heap.size w).alloc (Nat.le_refl _) (.cells #[] 9));have s1:(k:Int)≤(cap:Int):=by omega
     have s2:(k:Int)≤(l.length:Int):=by omega
     have hlk:(l.take k).length=k:=by rw [List.length_take];omega
     have HLK:=hide hlk
     have HTC:Hid (∀W' B',Txt W' B' (.slice (some ⟨g,0,none⟩) l.length cap) l→(∀j u,((l.take k).map Value.string)[j]? =some u→W'.cell? ((⟨g,0,none⟩:Addr).add j)=some u)∧(∀j u,((l.drop k).map Value.string)[j]? =some u→W'.cell? ((⟨g,k,none⟩:Addr).add j)=some u)):=fun W' B' h=>by
      refine ⟨fun j u hu=>?_,fun j u hu=>?_⟩
      ·rw [List.getElem?_map,List.getElem?_take] at hu
       split at hu
       ·cases hy:l[j]? with
        |none=>rw [hy] at hu;simp at hu
        |some y=>rw [hy] at hu;simp at hu;subst hu;rw [Mem.add_lit];exact h.cell hy
       ·simp at hu
      ·rw [List.getElem?_map,List.getElem?_drop] at hu;cases hy:l[k+j]? with
       |none=>rw [hy] at hu;simp at hu
       |some y=>rw [hy] at hu;simp at hu;subst hu;rw [Mem.zm1];exact h.cell hy
     have HO1:Hid (∀ (m:List ByteArray),∀u∈m.map Value.string,u.oneCell'=true):=fun m u hu=>by
      obtain ⟨y, -,rfl⟩:=List.mem_map.1 hu;rfl
     clear hlk hle e hx HK HIN;go_wp2_with (at_builtin;refine wpList_append_own _ rfl _ _ 24 rfl w.heap.size 9 i0 _ 1 16 Tryz.underlying24 hi hz0 hz1 hz2 rfl (by decide) _ _ _ rfl (za OA0) ⟨g,0,none⟩ k cap ((l.take k).map Value.string) rfl (by rw [List.length_map,za HLK];omega) (za HTC _ _ (za HL0 _ (za BA0))).1 (za HO1 _) (by simp;unfold maxLen;omega) (by simp;omega) (by simp) ?_)
     intro v1 wA ownA growA _
     have OA:Hid (Txt wA w.heap.size v1 (l.take k)):=by
      show World.ownsRow _ _ _ _ _ _ _;rw [za HLK]
      first |exact ownA|(simpa using ownA)
     have BA:=hide ((za BA0).grown growA (by simp) (fun q hq=>by cases hq;exact Nat.le_refl _));clear ownA growA OA0 BA0;obtain ⟨TK,hTK⟩:∃TK,l.take k=TK:=⟨_,rfl⟩;rw [hTK] at OA HLK;have HTK:=hide hTK;clear hTK;have hsA:=(za BA).size;go_wp2_with (at_builtin;refine wpList_append_own _ rfl _ _ 24 rfl w.heap.size 9 i0 _ 1 16 Tryz.underlying24 hi hz0 hz1 hz2 rfl (by decide) _ _ _ rfl (Mem.zc8 (za OA) (bE0)) ⟨wA.heap.size,0,none⟩ 1 1 [.string t] rfl rfl (Mem.zd0 _ _ _) (fun u hu=>by simp at hu;subst hu;rfl) (by rw [za HLK];unfold maxLen;omega) (by rw [za HLK];omega) (by simp;omega) ?_)
     intro v2 wB ownB growB _
     have OB:Hid (Txt wB w.heap.size v2 (TK++[t])):=by
      show World.ownsRow _ _ _ _ _ _ _;rw [List.map_append,List.length_append];exact ownB
     have BB:=hide (((za BA).alloc hsA (.cells #[.string t] 9)).grown growB (by simp;omega) (fun q hq=>(World.ownsRow.lt (za OA) q hq).1));clear ownB growB OA BA hsA;have hsB:=(za BB).size;have HLB:Hid ((TK++[t]).length=k+1):=by show _=_;rw [List.length_append,za HLK];rfl
     have HLD:Hid ((l.drop k).length=l.length - k):=List.length_drop;have HDL:=hide (za HTC wB _ (za HL0 _ (za BB))).2;have HON:=hide (za HO1 (l.drop k));go_wp2_with (at_builtin;refine wpList_append_own _ rfl _ _ 24 rfl w.heap.size 9 i0 _ 1 16 Tryz.underlying24 hi hz0 hz1 hz2 rfl (by decide) _ _ _ rfl (za OB) ⟨g,k,none⟩ (l.length - k) (cap - k) ((l.drop k).map Value.string) rfl (by rw [List.length_map,za HLD];omega) (za HDL) (za HON) (by rw [za HLB];unfold maxLen;omega) (by rw [za HLB];omega) hsB ?_)
     intro v3 wC ownC growC _
     have OC:Hid (Txt wC w.heap.size v3 (TK++[t]++l.drop k)):=by
      show World.ownsRow _ _ _ _ _ _ _;have e1:(TK++[t]++l.drop k).length=TK.length+1+(l.length - k):=by rw [List.length_append,List.length_append,za HLD];rfl
      have e2:(TK++[t]++l.drop k).map Value.string=TK.map Value.string++Value.string t::List.drop k (l.map Value.string):=by simp [List.map_drop]
      rw [e1,e2]
      first |exact ownC|(simpa using ownC)
     have BC:=hide ((za BB).grown growC hsB (fun q hq=>(World.ownsRow.lt (za OB) q hq).1));clear ownC growC OB BB HDL HON HLB HLD HTC HL0 HO1;rw [←za HTK,←za EI] at OC;have hpos:0<(Pl.insN t l).length:=by rw [za EI,List.length_append,List.length_append,List.length_singleton];omega
     obtain ⟨g',cap',rfl⟩:∃g' cap',v3= .slice (some ⟨g',0,none⟩) (Pl.insN t l).length cap':=by
      rcases (za OC).2 with ⟨_,h0⟩|⟨g',cap',cur,hv, -⟩
      ·omega
      ·exact ⟨g',cap',hv⟩
     go_wp2
     go_ret
     exact ⟨g',cap',rfl,Mem.zf9 (za OC) hB,za BC⟩
   ·have t1:Op.bytesLess x.toList t.toList=true:=hle
    have HK2:Hid (∀ (j:Nat) y,j<k+1→l[j]? =some y→Pl.zi5 y t=true):=fun j y hj hy=>by
     by_cases h:j<k
     ·exact za HK j y h hy
     ·obtain rfl:j=k:=by omega
      rw [hx] at hy;cases hy;exact hle
    clear hle hx HK HIN;go_wp2
    go_round
    case rel=>exact ⟨k+1,by omega,by go_num,HK2⟩
    case measure=>simp [intOf];omega
  ·have y1:¬ (k:Int)<(l.length:Int):=by omega
   have EI:Hid (Pl.insN t l=l.take k++[t]++l.drop k):=by
    show _=_;rw [za HIN k (za HK) (fun y hy=>by rw [List.getElem?_eq_none (by omega)] at hy;cases hy) hk,if_neg (by rw [List.getElem?_eq_none (by omega)];simp)]
   by_cases hkc:k<cap
   ·have HL0:=hide (fun W' (b:Below w.heap.size w W')=>Mem.zc8 (za HO) b);have OA0:Hid (Txt (w.alloc (.cells #[] 9)) w.heap.size (.slice (some ⟨w.heap.size,0,none⟩) 0 0) []):=⟨rfl, .inr ⟨w.heap.size,0,#[],rfl,Nat.le_refl _,heap_alloc_new _ _,Nat.le_refl _,Nat.zero_le _,rfl,rfl⟩⟩;have BA0:=hide ((Below.refl w.heap.size w).alloc (Nat.le_refl _) (.cells #[] 9));have s1:(k:Int)≤(cap:Int):=by omega
    have s2:(k:Int)≤(l.length:Int):=by omega
    have hlk:(l.take k).length=k:=by rw [List.length_take];omega
    have HLK:=hide hlk
    have HTC:Hid (∀W' B',Txt W' B' (.slice (some ⟨g,0,none⟩) l.length cap) l→(∀j u,((l.take k).map Value.string)[j]? =some u→W'.cell? ((⟨g,0,none⟩:Addr).add j)=some u)∧(∀j u,((l.drop k).map Value.string)[j]? =some u→W'.cell? ((⟨g,k,none⟩:Addr).add j)=some u)):=fun W' B' h=>by
     refine ⟨fun j u hu=>?_,fun j u hu=>?_⟩
     ·rw [List.getElem?_map,List.getElem?_take] at hu
      split at hu
      ·cases hy:l[j]? with
       |none=>rw [hy] at hu;simp at hu
       |some y=>rw [hy] at hu;simp at hu;subst hu;rw [Mem.add_lit];exact h.cell hy
      ·simp at hu
     ·rw [List.getElem?_map,List.getElem?_drop] at hu;cases hy:l[k+j]? with
      |none=>rw [hy] at hu;simp at hu
      |some y=>rw [hy] at hu;simp at hu;subst hu;rw [Mem.zm1];exact h.cell hy
    have HO1:Hid (∀ (m:List ByteArray),∀u∈m.map Value.string,u.oneCell'=true):=fun m u hu=>by
     obtain ⟨y, -,rfl⟩:=List.mem_map.1 hu;rfl
    clear hlk HK HIN;go_wp2_with (at_builtin;refine wpList_append_own _ rfl _ _ 24 rfl w.heap.size 9 i0 _ 1 16 Tryz.underlying24 hi hz0 hz1 hz2 rfl (by decide) _ _ _ rfl (za OA0) ⟨g,0,none⟩ k cap ((l.take k).map Value.string) rfl (by rw [List.length_map,za HLK];omega) (za HTC _ _ (za HL0 _ (za BA0))).1 (za HO1 _) (by simp;unfold maxLen;omega) (by simp;omega) (by simp) ?_)
    intro v1 wA ownA growA _
    have OA:Hid (Txt wA w.heap.size v1 (l.take k)):=by
     show World.ownsRow _ _ _ _ _ _ _;rw [za HLK]
     first |exact ownA|(simpa using ownA)
    have BA:=hide ((za BA0).grown growA (by simp) (fun q hq=>by cases hq;exact Nat.le_refl _));clear ownA growA OA0 BA0;obtain ⟨TK,hTK⟩:∃TK,l.take k=TK:=⟨_,rfl⟩;rw [hTK] at OA HLK;have HTK:=hide hTK;clear hTK;have hsA:=(za BA).size;go_wp2_with (at_builtin;refine wpList_append_own _ rfl _ _ 24 rfl w.heap.size 9 i0 _ 1 16 Tryz.underlying24 hi hz0 hz1 hz2 rfl (by decide) _ _ _ rfl (Mem.zc8 (za OA) (bE0)) ⟨wA.heap.size,0,none⟩ 1 1 [.string t] rfl rfl (Mem.zd0 _ _ _) (fun u hu=>by simp at hu;subst hu;rfl) (by rw [za HLK];unfold maxLen;omega) (by rw [za HLK];omega) (by simp;omega) ?_)
    intro v2 wB ownB growB _
    have OB:Hid (Txt wB w.heap.size v2 (TK++[t])):=by
     show World.ownsRow _ _ _ _ _ _ _;rw [List.map_append,List.length_append];exact ownB
    have BB:=hide (((za BA).alloc hsA (.cells #[.string t] 9)).grown growB (by simp;omega) (fun q hq=>(World.ownsRow.lt (za OA) q hq).1));clear ownB growB OA BA hsA;have hsB:=(za BB).size;have HLB:Hid ((TK++[t]).length=k+1):=by show _=_;rw [List.length_append,za HLK];rfl
    have HLD:Hid ((l.drop k).length=l.length - k):=List.length_drop;have HDL:=hide (za HTC wB _ (za HL0 _ (za BB))).2;have HON:=hide (za HO1 (l.drop k));go_wp2_with (at_builtin;refine wpList_append_own _ rfl _ _ 24 rfl w.heap.size 9 i0 _ 1 16 Tryz.underlying24 hi hz0 hz1 hz2 rfl (by decide) _ _ _ rfl (za OB) ⟨g,k,none⟩ (l.length - k) (cap - k) ((l.drop k).map Value.string) rfl (by rw [List.length_map,za HLD];omega) (za HDL) (za HON) (by rw [za HLB];unfold maxLen;omega) (by rw [za HLB];omega) hsB ?_)
    intro v3 wC ownC growC _
    have OC:Hid (Txt wC w.heap.size v3 (TK++[t]++l.drop k)):=by
     show World.ownsRow _ _ _ _ _ _ _;have e1:(TK++[t]++l.drop k).length=TK.length+1+(l.length - k):=by rw [List.length_append,List.length_append,za HLD];rfl
     have e2:(TK++[t]++l.drop k).map Value.string=TK.map Value.string++Value.string t::List.drop k (l.map Value.string):=by simp [List.map_drop]
     rw [e1,e2]
     first |exact ownC|(simpa using ownC)
    have BC:=hide ((za BB).grown growC hsB (fun q hq=>(World.ownsRow.lt (za OB) q hq).1));clear ownC growC OB BB HDL HON HLB HLD HTC HL0 HO1;rw [←za HTK,←za EI] at OC;have hpos:0<(Pl.insN t l).length:=by rw [za EI,List.length_append,List.length_append,List.length_singleton];omega
    obtain ⟨g',cap',rfl⟩:∃g' cap',v3= .slice (some ⟨g',0,none⟩) (Pl.insN t l).length cap':=by
     rcases (za OC).2 with ⟨_,h0⟩|⟨g',cap',cur,hv, -⟩
     ·omega
     ·exact ⟨g',cap',hv⟩
    go_wp2
    go_ret
    exact ⟨g',cap',rfl,Mem.zf9 (za OC) hB,za BC⟩
   ·obtain rfl:k=cap:=by omega
    have HL0:=hide (fun W' (b:Below w.heap.size w W')=>Mem.zc8 (za HO) b);have OA0:Hid (Txt (w.alloc (.cells #[] 9)) w.heap.size (.slice (some ⟨w.heap.size,0,none⟩) 0 0) []):=⟨rfl, .inr ⟨w.heap.size,0,#[],rfl,Nat.le_refl _,heap_alloc_new _ _,Nat.le_refl _,Nat.zero_le _,rfl,rfl⟩⟩;have BA0:=hide ((Below.refl w.heap.size w).alloc (Nat.le_refl _) (.cells #[] 9));have s1:(k:Int)≤(k:Int):=by omega
    have s2:(k:Int)≤(l.length:Int):=by omega
    have hlk:(l.take k).length=k:=by rw [List.length_take];omega
    have HLK:=hide hlk
    have HTC:Hid (∀W' B',Txt W' B' (.slice (some ⟨g,0,none⟩) l.length k) l→(∀j u,((l.take k).map Value.string)[j]? =some u→W'.cell? ((⟨g,0,none⟩:Addr).add j)=some u)∧(∀j u,((l.drop k).map Value.string)[j]? =some u→W'.cell? ((⟨g,k,none⟩:Addr).add j)=some u)):=fun W' B' h=>by
     refine ⟨fun j u hu=>?_,fun j u hu=>?_⟩
     ·rw [List.getElem?_map,List.getElem?_take] at hu
      split at hu
      ·cases hy:l[j]? with
       |none=>rw [hy] at hu;simp at hu
       |some y=>rw [hy] at hu;simp at hu;subst hu;rw [Mem.add_lit];exact h.cell hy
      ·simp at hu
     ·rw [List.getElem?_map,List.getElem?_drop] at hu;cases hy:l[k+j]? with
      |none=>rw [hy] at hu;simp at hu
      |some y=>rw [hy] at hu;simp at hu;subst hu;rw [Mem.zm1];exact h.cell hy
    have HO1:Hid (∀ (m:List ByteArray),∀u∈m.map Value.string,u.oneCell'=true):=fun m u hu=>by
     obtain ⟨y, -,rfl⟩:=List.mem_map.1 hu;rfl
    clear hlk HK HIN;go_wp2_with (at_builtin;refine wpList_append_own _ rfl _ _ 24 rfl w.heap.size 9 i0 _ 1 16 Tryz.underlying24 hi hz0 hz1 hz2 rfl (by decide) _ _ _ rfl (za OA0) ⟨g,0,none⟩ k k ((l.take k).map Value.string) rfl (by rw [List.length_map,za HLK];omega) (za HTC _ _ (za HL0 _ (za BA0))).1 (za HO1 _) (by simp;unfold maxLen;omega) (by simp;omega) (by simp) ?_)
    intro v1 wA ownA growA _
    have OA:Hid (Txt wA w.heap.size v1 (l.take k)):=by
     show World.ownsRow _ _ _ _ _ _ _;rw [za HLK]
     first |exact ownA|(simpa using ownA)
    have BA:=hide ((za BA0).grown growA (by simp) (fun q hq=>by cases hq;exact Nat.le_refl _));clear ownA growA OA0 BA0;obtain ⟨TK,hTK⟩:∃TK,l.take k=TK:=⟨_,rfl⟩;rw [hTK] at OA HLK;have HTK:=hide hTK;clear hTK;have hsA:=(za BA).size;go_wp2_with (at_builtin;refine wpList_append_own _ rfl _ _ 24 rfl w.heap.size 9 i0 _ 1 16 Tryz.underlying24 hi hz0 hz1 hz2 rfl (by decide) _ _ _ rfl (Mem.zc8 (za OA) (bE0)) ⟨wA.heap.size,0,none⟩ 1 1 [.string t] rfl rfl (Mem.zd0 _ _ _) (fun u hu=>by simp at hu;subst hu;rfl) (by rw [za HLK];unfold maxLen;omega) (by rw [za HLK];omega) (by simp;omega) ?_)
    intro v2 wB ownB growB _
    have OB:Hid (Txt wB w.heap.size v2 (TK++[t])):=by
     show World.ownsRow _ _ _ _ _ _ _;rw [List.map_append,List.length_append];exact ownB
    have BB:=hide (((za BA).alloc hsA (.cells #[.string t] 9)).grown growB (by simp;omega) (fun q hq=>(World.ownsRow.lt (za OA) q hq).1));clear ownB growB OA BA hsA;have hsB:=(za BB).size;have HLB:Hid ((TK++[t]).length=k+1):=by show _=_;rw [List.length_append,za HLK];rfl
    have HLD:Hid ((l.drop k).length=l.length - k):=List.length_drop;have HDL:=hide (za HTC wB _ (za HL0 _ (za BB))).2;have HON:=hide (za HO1 (l.drop k));go_wp2_with (at_builtin;refine wpList_append_own _ rfl _ _ 24 rfl w.heap.size 9 i0 _ 1 16 Tryz.underlying24 hi hz0 hz1 hz2 rfl (by decide) _ _ _ rfl (za OB) ⟨g,0,none⟩ 0 0 ([]:List Value) rfl rfl (by intro j u hu;simp at hu) (by simp) (by rw [za HLB];unfold maxLen;omega) (by rw [za HLB];omega) hsB ?_)
    intro v3 wC ownC growC _
    have OC:Hid (Txt wC w.heap.size v3 (TK++[t]++l.drop k)):=by
     show World.ownsRow _ _ _ _ _ _ _;have hdk:l.drop k=[]:=List.drop_eq_nil_of_le (by omega);rw [hdk,List.append_nil,List.map_append,List.length_append]
     first |exact ownC|(simpa using ownC)
    have BC:=hide ((za BB).grown growC hsB (fun q hq=>(World.ownsRow.lt (za OB) q hq).1));clear ownC growC OB BB HDL HON HLB HLD HTC HL0 HO1;rw [←za HTK,←za EI] at OC;have hpos:0<(Pl.insN t l).length:=by rw [za EI,List.length_append,List.length_append,List.length_singleton];omega
    obtain ⟨g',cap',rfl⟩:∃g' cap',v3= .slice (some ⟨g',0,none⟩) (Pl.insN t l).length cap':=by
     rcases (za OC).2 with ⟨_,h0⟩|⟨g',cap',cur,hv, -⟩
     ·omega
     ·exact ⟨g',cap',hv⟩
    go_wp2
    go_ret
    exact ⟨g',cap',rfl,Mem.zf9 (za OC) hB,za BC⟩
end ze9
end
section
open Go.RowKit
namespace Mem
theorem zy6 {P:Program} (w:World) (base:Nat) (t ty e:TypeId) (i:TypeInfo) (z:Value) (size bytes:Nat) (ht:P.underlying t=some (.slice e)) (hi:P.info? e=some i) (hz:i.zero=some z)
  (hsize:i.size=size) (hby:i.bytes=bytes) (hzs:z.cells.size=size) (hsz:0<size)
  (v:Value) (n:Nat) (xs:List Value) (hown:w.ownsRow base e size v n xs)
  (a:Addr) (m c:Nat) (news:List Value) (hl:news.length=m*size) (hnews:∀j u,news[j]? =some u→w.cell? (a.add j)=some u) (h1:∀u∈news,u.oneCell'=true)
  (h63:n+m≤maxLen) (hbytes:(n+m)*bytes≤140737488355328) (hbase:base≤w.heap.size):
  ∃v' w',(Builtin.append_ #[t,t] ty #[v, .slice (some a) m c]).run P w= .ok v' w'∧w'.ownsRow base e size v' (n+m) (xs++news)∧w.grownBy w' v.ownBlock∧∀g,v'.ownBlock=some g→v.ownBlock=some g∨w.heap.size≤g:=by
 obtain ⟨v',w',hr,h2,h3, -⟩:=run_append_own (P:=P) w base t ty e i z size bytes ht hi hz hsize hby hzs hsz v n xs hown a m c news hl hnews h1 h63 hbytes hbase;refine ⟨v',w',hr,h2,h3,?_⟩
 rcases hown.2 with ⟨rfl,rfl⟩|⟨g,cap,cur,rfl,hbg,hg,hnc,hcm,hcs,htake⟩
 ·have hx:xs=[]:=List.eq_nil_of_length_eq_zero (by simpa using hown.1);subst hx;obtain ⟨v2,w2,hr2,k2, -, -⟩:=run_append_own (P:=P) w w.heap.size t ty e i z size bytes ht hi hz hsize hby hzs hsz _ 0 [] (World.ownsRow_nil w w.heap.size e size) a m c news hl hnews h1 h63 hbytes (Nat.le_refl _);rw [hr] at hr2;cases hr2
  exact fun g hg=> .inr (k2.lt g hg).1
 ·subst hsize hby
  by_cases hroom:n+m≤cap
  ·have hfit:n*i.size+news.length≤cur.size:=by rw [hl,hcs,←Nat.add_mul];exact Nat.mul_le_mul_right _ hroom
   rw [run_append_room (P:=P) w t ty e i ht hi g n cap cur hg a m c news hl hnews h1 hroom hfit] at hr;cases hr
   exact fun g hg=> .inl hg
  ·have holds:∀j u,xs[j]? =some u→w.cell? ((⟨g,0,none⟩:Addr).add j)=some u:=hown.cells (g:=g) rfl;have hsmall:n+m≤9223372036854775807:=by simp only [maxLen] at h63;omega
   rw [run_append_grow (P:=P) w t ty e i z ht hi hz ⟨g,0,none⟩ n cap xs hown.1 holds a m c news hl hnews (by omega) (by omega) (growslice_fits (by omega) hbytes)] at hr;cases hr
   intro g' hg';cases hg'
   exact .inr (Nat.le_refl _)
theorem zg {P:Program} (w:World) {ops:Array Oper} {rest:List Oper} {o:Oper} {a:Act} {Q:Exit→Act→World→Prop} (hgd:o.guard=none) (s x:Operand) (t:TypeId)
  (ho:o.op= .call { callee:= .builtin .append,args:=#[s,x],argTypes:=#[t,t] })
  (base:Nat) (e:TypeId) (i:TypeInfo) (z:Value) (size bytes:Nat) (ht:P.underlying t=some (.slice e)) (hi:P.info? e=some i) (hz:i.zero=some z)
  (hsize:i.size=size) (hby:i.bytes=bytes) (hzs:z.cells.size=size) (hsz:0<size)
  (v:Value) (n:Nat) (xs:List Value) (hs:a.eval s=v) (hown:w.ownsRow base e size v n xs)
  (ad:Addr) (m c:Nat) (news:List Value) (hx:a.eval x= .slice (some ad) m c) (hl:news.length=m*size) (hnews:∀j u,news[j]? =some u→w.cell? (ad.add j)=some u) (h1:∀u∈news,u.oneCell'=true)
  (h63:n+m≤maxLen) (hbytes:(n+m)*bytes≤140737488355328) (hbase:base≤w.heap.size)
  (h:∀v' w',w'.ownsRow base e size v' (n+m) (xs++news)→w.grownBy w' v.ownBlock→(∀g,v'.ownBlock=some g→v.ownBlock=some g∨w.heap.size≤g)→wpList P ops Q rest (a.put o.dst v') w'):wpList P ops Q (o::rest) a w:=
 wpList_plain hgd fun _ hK=>by
  obtain ⟨v',w',hr,h2,h3,h4⟩:=zy6 (P:=P) w base t o.type e i z size bytes ht hi hz hsize hby hzs hsz v n xs hown ad m c news hl hnews h1 h63 hbytes hbase;unfold Oper.wp execOp;simp only [ho,resolve,invoke,builtin,Sem.run_bind,Sem.run_pure,Result.andThen_ok,List.map_toArray,List.map_cons,List.map_nil,hs,hx,hr];exact hK _ _ (h v' w' h2 h3 h4)
end Mem
end
section
open Go.RowKit
namespace zf3
theorem infoI:(Tryz.prog.info? 3).map (fun i=>(i.zero,i.size,i.bytes))=some (some (.int .i64 0),1,8):=by kernel_rfl
def intsV (ks:List Nat):List Value:=ks.map (fun k:Nat=>Value.int .i64 (k:Int))
def ownI (w:World) (B:Nat) (v:Value) (ks:List Nat):Prop:=w.ownsRow B 3 1 v ks.length (intsV ks)
theorem zo6 {w w':World} {B:Nat} {v:Value} {ks:List Nat} (h:ownI w B v ks) (b:Below w.heap.size w w'):ownI w' B v ks:=by
 refine ⟨h.1,?_⟩
 rcases h.2 with h0|⟨g,cap,cur,hv,hb,hg,rest⟩
 ·exact .inl h0
 ·exact .inr ⟨g,cap,cur,hv,hb,(b.block g (Array.getElem?_eq_some_iff.1 hg).1).trans hg,rest⟩
theorem zu9 {w:World} {B:Nat} {v:Value} {ks:List Nat} {k:Nat} (h:w.ownsRow B 3 1 v (ks.length+1) (intsV ks++[.int .i64 (k:Int)])):ownI w B v (ks++[k]):=by
 unfold ownI intsV;rw [List.map_append,List.length_append];exact h
end zf3
end
end Go.Proofs.YtpggbphcbcogdaaGreatDoor
