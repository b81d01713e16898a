import Derived.Test.YtpggbphcbcogdaaGreatDoorMapN
import Derived.Maps.RangeWalk
import Derived.Sort.MapsRangeIn
namespace Go.Proofs.YtpggbphcbcogdaaGreatDoor
open Go.RowKit Go.Maps
namespace MapN
theorem size_fold:∀ (C:List Pl.Nd) (D:DataW Unit),Tidy D→C.Pairwise (fun a b=>a.path≠b.path)→(∀n∈C,Maps.has D (key n.path)=false)→Maps.size (C.foldl (fun D n=>D.put (key n.path) (dat n)) D)=Maps.size D+C.length:=by
 intro C
 induction C with
 |nil=>intro D _ _ _;rfl
 |cons n C ih=>
  intro D hD hp hn;have hp':=List.pairwise_cons.1 hp;rw [List.foldl_cons,ih _ (hD.put (key_is _) _) hp'.2 (fun m hm=>by rw [has_put_other (key_ne (fun e=>hp'.1 m hm e.symm))];exact hn m (List.mem_cons_of_mem _ hm)),size_put hD,if_neg (by rw [hn n List.mem_cons_self];simp),List.length_cons];omega
theorem size_mapOf {C:List Pl.Nd} (h:C.Pairwise (fun a b=>a.path≠b.path)):Maps.size (mapOf C)=C.length:=by
 have :=size_fold C (.map []) tidy_empty h (fun _ _=>rfl);rw [mapOf,this];show 0+_=_;omega
end MapN
end Go.Proofs.YtpggbphcbcogdaaGreatDoor
