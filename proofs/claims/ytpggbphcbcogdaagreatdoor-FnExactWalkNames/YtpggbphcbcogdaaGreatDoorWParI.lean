import Derived.Test.YtpggbphcbcogdaaGreatDoorWNames
import Derived.Test.YtpggbphcbcogdaaGreatDoorWPathOf
namespace Go.Proofs.YtpggbphcbcogdaaGreatDoor
open Go.RowKit
namespace zh3
set_option maxRecDepth 100000 in
set_option maxHeartbeats 4000000 in
theorem base_any (s:ByteArray) (w:World) (hs:s.size≤1048576):
  Calls Tryz.prog 60 #[.string s] w fun e w'=>e= .returned (.string (Pl.glue ((Pl.zb0 s).drop ((Pl.zb0 s).length - 1))))∧Below w.heap.size w w':=by
 have hn:=hide (zn6.any s w hs);have hL:=hide (Pl.ze2 s);generalize Pl.za2 s=r at hn;generalize Pl.zb0 s=L at hn hL;go_enter Tryz.func60,Tryz.ntmps60
 go_wp2_with fail
 refine (za hn).mono ?_;rintro e w1 ⟨v,rfl,hown,hb⟩;clear hn
 rcases Mem.texts hown with ⟨rfl,rfl⟩|⟨g,cap,rfl,hcap,hm,hgb,hgl,hcell⟩
 ·clear hown;go_wp2_with fail
  refine (zk1.any _ [] _ (by simp) (by decide) (.inl ⟨rfl,rfl⟩)).mono ?_;rintro e w2 ⟨rfl,hb2⟩;have hb3:=hb.trans (hb2.mono hb.size);clear hb hb2;go_wp2
  go_ret
  exact ⟨rfl,hb3⟩
 ·clear hown;have hm2:=hm;have HC:=hide hcell;clear hcell;unfold maxLen at hm2;by_cases h0:L.length=0
  ·obtain rfl:L=[]:=List.eq_nil_of_length_eq_zero h0;have m0:max (-1:Int) 0=0:=by decide
   go_wp2_with fail
   refine (zk1.any _ [] _ (by simp) (by decide) (.inr ⟨g,0,cap,rfl,hgl,fun j t h=>by simp at h⟩)).mono ?_;rintro e w2 ⟨rfl,hb2⟩;have hb3:=hb.trans (hb2.mono hb.size);clear hb hb2;go_wp2
   go_ret
   exact ⟨rfl,hb3⟩
  ·have h1:(0:Int)≤(L.length:Int) - 1:=by omega
   have m1:max ((L.length:Int) - 1) 0=(L.length:Int) - 1:=by omega
   have h2:(L.length:Int) - 1≤(L.length:Int):=by omega
   have h3:cap≠L.length - 1:=by omega
   go_wp2_with fail
   refine (zk1.any _ (L.drop (L.length - 1)) _ ?_ (Pl.zm (Pl.all_drop (za hL).1 _) ?_) (Mem.drop_texts hgl (za HC) _)).mono ?_
   ·have :=(za hL).2;simp;omega
   ·have :=(za hL).2;simp;omega
   rintro e w2 ⟨rfl,hb2⟩;have hb3:=hb.trans (hb2.mono hb.size);clear hb hb2;go_wp2
   go_ret
   exact ⟨rfl,hb3⟩
end zh3
end Go.Proofs.YtpggbphcbcogdaaGreatDoor
