import Derived.Test.YtpggbphcbcogdaaGreatDoorPlainTree
import Derived.Test.YtpggbphcbcogdaaGreatDoorPlainLaw
namespace Go.Proofs.YtpggbphcbcogdaaGreatDoor
namespace Pl
theorem kid_names {q p:ByteArray} (hq:za2 q=true) (h0:q.size≠0) (h:parent q=p):names q=names p++[base q]:=by
 have hn:names p=(names q).dropLast:=by rw [←h,zt3 hq,zu4 hq]
 have hne:names q≠[]:=zs3 h0;have hl:=List.length_pos_iff.2 hne;have hc:(names q).dropLast++[(names q).getLast hne]=names q:=List.dropLast_concat_getLast hne
 have hd:(names q).drop ((names q).length - 1)=[(names q).getLast hne]:=by
  have e:(names q).length - 1=(names q).dropLast.length:=by rw [List.length_dropLast]
  rw [e]
  conv=>lhs;arg 2;rw [←hc]
  exact List.drop_left
 rw [hn,base_glue,hd,glue_one,hc]
theorem zs2 {L:List Nd} (h:zb9 L=true):∀n∈L,za2 n.path=true∧n.path.size≠0:=by
 simp only [zb9,Bool.and_eq_true,decide_eq_true_eq] at h;exact fun n hn=>zi1 (goI_all L _ _ h.2 n hn)
end Pl
end Go.Proofs.YtpggbphcbcogdaaGreatDoor
