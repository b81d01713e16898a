import Derived.Test.YtpggbphcbcogdaaGreatDoorPlainPar
import Derived.Test.YtpggbphcbcogdaaGreatDoorWNames
import Derived.Test.YtpggbphcbcogdaaGreatDoorWPathOf
namespace Go.Proofs.YtpggbphcbcogdaaGreatDoor
open Go.RowKit
namespace zh3
set_option maxRecDepth 100000 in
set_option maxHeartbeats 4000000 in
theorem zl2 (s:ByteArray) (w:World) (hs:s.size≤1048576):
  Calls Tryz.prog 59 #[.string s] w fun e w'=>e= .returned (.string (Pl.glue (Pl.zb0 s).dropLast))∧Below w.heap.size w w':=by
 have hn:=hide (zn6.any s w hs);have hL:=hide (Pl.ze2 s);generalize Pl.za2 s=r at hn;generalize Pl.zb0 s=L at hn hL;go_enter Tryz.func59,Tryz.ntmps59
 go_wp2_with fail
 refine (za hn).mono ?_;rintro e w1 ⟨v,rfl,hown,hb⟩;clear hn
 rcases Mem.texts hown with ⟨rfl,rfl⟩|⟨g,cap,rfl,hcap,hm,hgb,hgl,hcell⟩
 ·clear hown;go_wp2_with fail
  refine (zk1.any _ [] _ (by simp) (by decide) (.inl ⟨rfl,rfl⟩)).mono ?_;rintro e w2 ⟨rfl,hb2⟩;have hb3:=hb.trans (hb2.mono hb.size);clear hb hb2;go_wp2
  go_ret
  exact ⟨rfl,hb3⟩
 ·clear hown;have hm2:=hm;have HC:=hide hcell;clear hcell;unfold maxLen at hm2;by_cases h0:L.length=0
  ·obtain rfl:L=[]:=List.eq_nil_of_length_eq_zero h0;have m0:max (-1:Int) 0=0:=by decide
   go_wp2_with fail
   refine (zk1.any _ [] _ (by simp) (by decide) (.inr ⟨g,0,cap,rfl,hgl,fun j t h=>by simp at h⟩)).mono ?_;rintro e w2 ⟨rfl,hb2⟩;have hb3:=hb.trans (hb2.mono hb.size);clear hb hb2;go_wp2
   go_ret
   exact ⟨rfl,hb3⟩
  ·have h1:(0:Int)≤(L.length:Int) - 1:=by omega
   have m1:max ((L.length:Int) - 1) 0=(L.length:Int) - 1:=by omega
   have h2:(L.length:Int) - 1≤(cap:Int):=by omega
   have E:=hide (Pl.drop_last L);go_wp2_with fail
   try rw [show (max ((L.length:Int) - 1) 0).toNat=L.length - 1 by omega]
   refine (zk1.any _ (L.take (L.length - 1)) _ ?_ (Pl.zm (Pl.zn1 (za hL).1 _) ?_) (Mem.take_texts hgl (za HC) _ (by omega))).mono ?_
   ·have :=(za hL).2;simp;omega
   ·have :=(za hL).2;simp;omega
   rintro e w2 ⟨rfl,hb2⟩;rw [za E];have hb3:=hb.trans (hb2.mono hb.size);clear hb hb2;go_wp2
   go_ret
   exact ⟨rfl,hb3⟩
end zh3
end Go.Proofs.YtpggbphcbcogdaaGreatDoor
