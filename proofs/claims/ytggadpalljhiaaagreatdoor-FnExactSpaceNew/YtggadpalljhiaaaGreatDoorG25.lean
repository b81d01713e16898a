/- Several texts of one claim in one file: WRising, WRiseU. -/
import Derived.Test.YtggadpalljhiaaaGreatDoorG06
import Derived.Test.YtggadpalljhiaaaGreatDoorG23
import Derived.Test.YtggadpalljhiaaaGreatDoorWCopied
import Derived.Maps.RangeWalk
import Derived.Sort.MapsRangeIn
import Derived.Test.YtggadpalljhiaaaGreatDoorG03
namespace Go.Proofs.YtggadpalljhiaaaGreatDoor
section
open Go.RowKit Go.Maps
namespace Pl
theorem lt_asym {a b:ByteArray} (ha:za2 a=true) (hb:za2 b=true) (h:ltP a b=true):ltP b a=false:=by
 cases h2:ltP b a
 ·rfl
 ·rw [ze ha hb] at h;rw [ze hb ha] at h2;have :=zg2 _ _ _ h h2;rw [zj1] at this;cases this
theorem sorted_one {S L:List Nd} (hp:S.Perm L) (hok:∀n∈L,za2 n.path=true) (h0:L.Pairwise (fun a b=>ltP a.path b.path=true)) (hs:S.Pairwise (fun a b=>ltP b.path a.path=false)):S=L:=by
 have hap:∀a∈L,∀b∈L,a.path=b.path→a=b:=by
  have h1:L.Pairwise (fun a b=>za3 (names a.path) (names b.path)=true):=List.Pairwise.imp_of_mem (fun {a b} ha hb h=>by rw [←ze (hok a ha) (hok b hb)];exact h) h0;exact fun a ha b hb e=>one_path h1 ha hb e
 refine List.Perm.eq_of_pairwise (le:=fun a b=>ltP b.path a.path=false) ?_ hs (List.Pairwise.imp_of_mem (fun {a b} ha hb h=>lt_asym (hok a ha) (hok b hb) h) h0) hp;intro a b ha hb h1 h2;have ha':=hp.mem_iff.1 ha;refine hap a ha' b hb ?_;by_cases e:a.path=b.path
 ·exact e
 ·have :=two_less (hok a ha') (hok b hb) e
  change ltP a.path b.path= !ltP b.path a.path at this
  rw [h1,h2] at this;cases this
end Pl
namespace MapN
theorem keyOf_inv {p:ByteArray} {kl:Lit} (h:keyOf Tryz.prog 9 (.string p)=some kl):kl=key p:=by
 simp [keyOf,Tryz.underlying9,mapKey] at h
 rw [←h.2];rfl
structure Reads (D:DataW Unit) (C:List Pl.Nd):Prop where
 has:∀n∈C,Maps.has D (key n.path)=true
 ent:∀ (p:ByteArray) (c:Pl.Nd),(∀z,D.atKey (key p) z=dat c)→c∈C∧p=c.path
structure Got (C T:List Pl.Nd) (left:Lit→Bool):Prop where
 sub:∀t∈T,t∈C
 apart:T.Pairwise (fun a b=>a.path≠b.path)
 seen:∀t∈T,left (key t.path)=false
 all:∀n∈C,left (key n.path)=false→n∈T
theorem got_start {C:List Pl.Nd} {D:DataW Unit} (hD:Reads D C):Got C [] (Maps.has D):=
 ⟨fun t h=>absurd h (by simp),List.Pairwise.nil,fun t h=>absurd h (by simp),fun n hn h=>by rw [hD.has n hn] at h;cases h⟩
theorem one_apart {C:List Pl.Nd} (h:C.Pairwise (fun a b=>a.path≠b.path)) {a b:Pl.Nd} (ha:a∈C) (hb:b∈C) (e:a.path=b.path):a=b:=by
 induction h with
 |nil=>cases ha
 |cons h1 _ ih=>
  rcases List.mem_cons.1 ha with ha1|ha1
  ·rcases List.mem_cons.1 hb with hb1|hb1
   ·rw [ha1,hb1]
   ·exact absurd (ha1 ▸ e) (h1 _ hb1)
  ·rcases List.mem_cons.1 hb with hb1|hb1
   ·exact absurd (hb1 ▸ e).symm (h1 _ ha1)
   ·exact ih ha1 hb1
theorem entry_in {C:List Pl.Nd} {p:ByteArray} {c:Pl.Nd} (hC:C.Pairwise (fun a b=>a.path≠b.path)) (h:∀z,(mapOf C).atKey (key p) z=dat c):c∈C∧p=c.path:=by
 by_cases hp:∃n∈C,n.path=p
 ·obtain ⟨n,hn,rfl⟩:=hp;have e:=(zr6 hC hn).2 (dat c);rw [h] at e;have e2:=zo e;subst e2;exact ⟨hn,rfl⟩
 ·exfalso;have hm:∀n∈C,n.path≠p:=fun n hn e=>hp ⟨n,hn,e⟩;have h1:=(zi6 p C (.map []) hm).2;have a:∀z,dat c=z:=fun z=>by rw [←h z];exact h1 z
  have a1:=a (dat ⟨p,c.kind+1,p,0,0⟩);have a2:=zo a1;have a3:=congrArg Pl.Nd.kind a2;simp only at a3;omega
theorem reads_mapOf {C:List Pl.Nd} (hC:C.Pairwise (fun a b=>a.path≠b.path)):Reads (mapOf C) C:=⟨fun _ hn=>(zr6 hC hn).1,fun _ _ h=>entry_in hC h⟩
theorem got_step {C T:List Pl.Nd} {left:Lit→Bool} {c:Pl.Nd} (hC:C.Pairwise (fun a b=>a.path≠b.path)) (h:Got C T left) (hc:c∈C) (hl:left (key c.path)=true):Got C (T++[c]) (fun z=>left z&&!z.sameKey (key c.path)):=by
 have same:(key c.path).sameKey (key c.path)=true:=by simp [key,Lit.sameKey]
 refine ⟨fun t ht=>?_,?_,fun t ht=>?_,fun n hn hf=>?_⟩
 ·rcases List.mem_append.1 ht with ht|ht
  ·exact h.sub t ht
  ·simp at ht;subst ht;exact hc
 ·rw [List.pairwise_append];refine ⟨h.apart,List.pairwise_singleton _ _,fun a ha b hb e=>?_⟩;simp at hb;subst hb
  have :=h.seen a ha;rw [e,hl] at this;cases this
 ·rcases List.mem_append.1 ht with ht|ht
  ·show (left (key t.path)&&_)=false;rw [h.seen t ht];rfl
  ·simp at ht;subst ht
   show (left (key t.path)&&!(key t.path).sameKey (key t.path))=false;rw [same];simp
 ·by_cases e:n.path=c.path
  ·rw [one_apart hC hn hc e];simp
  ·refine List.mem_append.2 (.inl (h.all n hn ?_));have hs:=sameKey_ne (key_ne e);have hf':(left (key n.path)&&!(key n.path).sameKey (key c.path))=false:=hf;rw [hs] at hf'
   simpa using hf'
theorem got_end {C T:List Pl.Nd} {left:Lit→Bool} (hC:C.Pairwise (fun a b=>a.path≠b.path)) (h:Got C T left) (hl:∀k,left k=false):T.Perm C:=by
 refine (List.perm_ext_iff_of_nodup (h.apart.imp (fun {a b} hne e=>hne (by rw [e]))) (hC.imp (fun {a b} hne e=>hne (by rw [e])))).2 fun x=>⟨h.sub x,fun hx=>h.all x hx (hl _)⟩
end MapN
namespace zj7
theorem infoN:(Tryz.prog.info? 106).map (fun i=>(i.zero,i.size,i.bytes))=some (some (.agg #[.string ⟨#[]⟩, .int .i64 0, .string ⟨#[]⟩, .int .i64 0, .int .i64 0]),5,56):=by kernel_rfl
def zeros (n:Nat):Array Value:=madeCells (Value.agg #[.string ⟨#[]⟩, .int .i64 0, .string ⟨#[]⟩, .int .i64 0, .int .i64 0]).cells (n*5)
theorem makeC (n:Nat) (hn:n≤1048576) (w:World):(Instr.makeSlice 52 (.int .i64 0) (.int .i64 (n:Int))).run Tryz.prog w= .ok (.slice (some ⟨w.heap.size,0,none⟩) 0 n) (w.alloc (.cells (zeros n) 106)):=by
 obtain ⟨i0,h0,h1,h2,h3⟩:=info_parts infoN;have h:=run_make (P:=Tryz.prog) w 52 106 i0 (.agg #[.string ⟨#[]⟩, .int .i64 0, .string ⟨#[]⟩, .int .i64 0, .int .i64 0]) Tryz.underlying52 h0 h1 .i64 .i64 0 (n:Int) (by omega) (by omega) (by rw [h3];omega) (by omega);rw [h,h2];simp [zeros]
theorem iter_at {w:World} {B r n:Nat} {D:DataW Unit} {left:Lit→Bool} {cnt:Nat} (h:w.ranges Tryz.prog 9 MapN.elem B r n D left cnt) {g:Nat} {cs:Array Value} {T:TypeId} (hg:w.heap[g]? =some (.cells cs T (0,0))):g≠r∧g≠B:=by
 obtain ⟨es,clock,since,seen,c0,h1,_,_,_,h2,_⟩:=h;refine ⟨fun e=>?_,fun e=>?_⟩
 ·subst e;rw [hg] at h2;cases h2
 ·subst e;rw [hg] at h1;cases h1
theorem own_not {w:World} {B r n Bs:Nat} {D:DataW Unit} {left:Lit→Bool} {cnt:Nat} {v:Value} {T:List Pl.Nd} (h:w.ranges Tryz.prog 9 MapN.elem B r n D left cnt) (ho:Mem.ownN w Bs v T):∀g,v.ownBlock=some g→g≠r∧g≠B:=by
 intro g hg
 rcases ho.2 with ⟨rfl,_⟩|⟨g',cap,cur,rfl,_,hh,_⟩
 ·cases hg
 ·cases hg;exact iter_at h hh
theorem sort_own (v:Value) (B:Nat) (T:List Pl.Nd) (w:World) (hp:∀t∈T,Pl.za2 t.path=true) (hl:T.length≤1048576) (hown:Mem.ownN w B v T):
  Calls Tryz.prog 91 #[v, .func (.func 92) #[] #[]] w fun e w'=>e= .returned (.tuple #[])∧
   ∃S:List Pl.Nd,S.Perm T∧S.Pairwise (fun a b=>Pl.ltP b.path a.path=false)∧Mem.ownN w' B v S∧w.grownBy w' v.ownBlock:=by
 rcases hown.2 with ⟨rfl,h0⟩|⟨g,cap,cur,rfl,rest⟩
 ·have :T=[]:=List.length_eq_zero_iff.1 h0;subst this;refine Calls.mono (AnyF.slices_SortFunc_none (P:=Tryz.prog) zq4.lay none 0 (.func (.func 92) #[] #[]) w) ?_;rintro e w' ⟨he,rfl⟩;exact ⟨he,[],List.Perm.refl _,List.Pairwise.nil,hown,⟨rfl,rfl,rfl,Nat.le_refl _,fun _ _ _=>rfl⟩⟩
 ·exact WOrder.sort_any g cap B T w hp hl hown
set_option maxRecDepth 100000 in
set_option maxHeartbeats 2000000 in
theorem any (B N:Nat) (C L:List Pl.Nd) (D:DataW Unit) (w:World) (hown:w.ownsMap Tryz.prog 9 MapN.elem B N D) (hN:N≤1000) (hD:MapN.Reads D C) (hC:C.Pairwise (fun a b=>a.path≠b.path)) (hperm:L.Perm C) (hr:L.Pairwise (fun a b=>Pl.ltP a.path b.path=true))
  (hok:∀n∈C,Pl.za2 n.path=true∧n.data.size≤1048576):
  Calls Tryz.prog 65 #[.map (some B)] w fun e w'=>∃v,e= .returned v∧Mem.ownN w' w.heap.size v L∧Below w.heap.size w w':=by
 obtain ⟨i0,hi,hz0,hz1,hz2⟩:=info_parts infoN;have hsz:=hown.size_le;have hmk:=makeC (Maps.size D) (by omega) w;have hbl:=hown.lt;have e1:(w.alloc (.cells (zeros (Maps.size D)) 106)).heap.size=w.heap.size+1:=by simp
 have OW0:Hid (Mem.ownN (w.alloc (.cells (zeros (Maps.size D)) 106)) w.heap.size (.slice (some ⟨w.heap.size,0,none⟩) 0 (Maps.size D)) []):=
  ⟨rfl, .inr ⟨w.heap.size,_,_,rfl,Nat.le_refl _,heap_alloc_new _ _,Nat.zero_le _,by unfold maxLen;omega,size_madeCells _ _,rfl⟩⟩
 have HG0:=hide (MapN.got_start hD);have HC:=hide hC;have HOK:=hide hok
 have HEND:Hid (∀S T:List Pl.Nd,T.Perm C→S.Perm T→S.Pairwise (fun a b=>Pl.ltP b.path a.path=false)→S=L):=fun S T h1 h2 h3=>
  Pl.sorted_one ((h2.trans h1).trans hperm.symm) (fun n hn=>(hok n (hperm.mem_iff.1 hn)).1) hr h3
 have HM:=hide hown;clear hown hr hperm hC hok;have HENT:=hide hD.ent;clear hD;go_enter Tryz.func65,Tryz.ntmps65
 go_wp2_with (first
  |(at_len;refine wpList_len_own _ rfl _ 59 rfl 9 106 Tryz.underlying59 _ B N D rfl (za HM) ?_)
  |(at_range;refine wpList_range_own _ rfl _ 59 rfl 9 106 MapN.law Tryz.underlying59 _ B N _ rfl ((za HM).alloc _) ?_;intro w0 hrg0 hg0 hs0)
  |go_in)
 go_frame
 rw [e1] at hrg0 hs0 ⊢;have OW1:=hide (Mem.ya4 (za OW0) hg0 (fun _ _=>by simp));have B1:=hide (((Below.refl w.heap.size w).alloc (Nat.le_refl _) _).grown hg0 (by simp) (fun j hj=>by cases hj));clear hg0 hs0 OW0 hmk e1
 go_loopw [3] (fun v wr=>∃ (left:Lit→Bool) (cnt:Nat) (T:List Pl.Nd),wr.ranges Tryz.prog 9 MapN.elem B (w.heap.size+1) N D left cnt∧T.length+cnt≤Maps.size D∧Hid (Mem.ownN wr w.heap.size v T)∧Hid (MapN.Got C T left)∧Hid (Below w.heap.size w wr))
  (fun _ wr=>wr.rangeLeft B (w.heap.size+1))
 case atStart=>exact ⟨_,_,[],hrg0,by simp,OW1,HG0,B1⟩
 case round=>
  obtain ⟨left,cnt,T,hrg,hcs,HOW,HGT,HB⟩:=hrel;have HNT:=hide (own_not hrg (za HOW));clear hrg0 OW1 B1 HG0
  go_wp2_with (first
   |(at_next;refine wpList_next_ranges _ rfl _ rfl 9 MapN.law MapN.elem (Value.string) (Pl.Nd.val) (fun key kl hk=>Maps.keyOf_string_inv Tryz.underlying9 hk) (fun v y hv=>by obtain ⟨d,ps⟩:=y;obtain ⟨n,hn,_⟩:=MapN.elem_inv hv;exact ⟨n,hn⟩) B (w.heap.size+1) N _ _ _ rfl hrg ?_ ?_)
   |go_in)
  ·intro hc0 hl0;have hp:=hide (MapN.got_end (za HC) (za HGT) hl0);have hs:=hide (sort_own u3 w.heap.size T wr (fun t ht=>(za HOK t ((za HGT).sub t ht)).1) (by omega) (za HOW));have HLW:=hide (Mem.zk8 (za HOW));clear HOW HGT HNT hrg hc0 hl0 HENT;go_wp2_with fail
   refine (za hs).mono ?_;rintro e w2 ⟨rfl,S,h1,h2,h3,h4⟩;have eS:=za HEND S T (za hp) h1 h2;subst eS;have bw:=(za HB).grown h4 (za HB).size (fun q hq=>(za HLW q hq).1);have O2:=hide h3;clear hs h1 h2 h3 h4 hp HEND;go_wp2
   go_ret
   exact ⟨u3,rfl,za O2,bw⟩
  ·intro x c kl yd yp w1 cnt1 hkey hlk hR hat hrg1 hlt hg1 hs1 hen;have ek:kl=MapN.key x:=MapN.keyOf_inv hkey;have ey:yd=MapN.dat c:=by rw [MapN.zn8] at hR;cases hR;rfl
   subst ek ey;obtain ⟨hcC,rfl⟩:=za HENT x c hat;have HG2:=hide (MapN.got_step (za HC) (za HGT) hcC hlk);have hok:=za HOK c hcC;have hc:=hide (fun W=>WCopied.any c W (by have :=Pl.zh9 hok.1;omega) hok.2);have HRG1:=hide hrg1;have OW1:=Mem.ya4 (za HOW) hg1 (fun g hg e=>by cases e;exact (za HNT _ hg).1 rfl);have B1:=(za HB).grown hg1 (za HB).size (fun q hq=>by cases hq;omega);have HLE:=hide (hrg.left_eq);clear hat hR hkey hlk hok hcC HGT HOW HB hg1 hs1 hrg1 hrg HENT HNT;obtain ⟨p,k0,d,t,m⟩:=c;simp only [Pl.Nd.val] at hen hc HG2 HRG1 ⊢;have OWD:=Mem.zv9 OW1 (.cells #[.string p, .int .i64 k0, .string d, .int .i64 t, .int .i64 m] 106);have bW:=B1.alloc B1.size (.cells #[.string p, .int .i64 k0, .string d, .int .i64 t, .int .i64 m] 106);have hsW:w.heap.size≤w1.heap.size:=B1.size;clear OW1 B1;go_wp2_with fail
   refine (za hc _).mono ?_;rintro e wC ⟨rfl,bC⟩;have OWC:=Mem.zp7 OWD bC;have bX:=bW.trans (bC.mono bW.size);have HLT:=hide (Mem.zk8 OWC);have HRC:=hide (((za HRG1).alloc (.cells #[.string p, .int .i64 k0, .string d, .int .i64 t, .int .i64 m] 106)).kept (Mem.zb8 bC none) (by simp) (by simp));have HNC:=hide (own_not (za HRC) OWC);have hsX:=bX.size;clear OWD bW bC hc HRG1 hen;go_wp2_with (at_builtin;refine wpList_append_own _ rfl _ _ 52 rfl w.heap.size 106 i0 _ 5 56 Tryz.underlying52 hi hz0 hz1 hz2 rfl (by decide) _ _ _ rfl (Mem.zv9 OWC _) ⟨wC.heap.size,0,none⟩ 1 1 [.string p, .int .i64 k0, .string d, .int .i64 t, .int .i64 m] rfl rfl (Mem.cs_new wC ⟨p,k0,d,t,m⟩ _) (Mem.cs_one ⟨p,k0,d,t,m⟩) (by unfold maxLen;omega) (by omega) (by simp;omega) ?_)
   intro v'' wZ hownZ hgrow _;have OWZ:=hide (Mem.ownN_snoc (L:=T) (n:=⟨p,k0,d,t,m⟩) hownZ);have HRZ:=hide (((za HRC).alloc (.cells #[.string p, .int .i64 k0, .string d, .int .i64 t, .int .i64 m] 106)).kept hgrow (fun e=>(za HNC _ e.symm).2 rfl) (fun e=>(za HNC _ e.symm).1 rfl));have bZ:=hide ((bX.alloc bX.size (.cells #[.string p, .int .i64 k0, .string d, .int .i64 t, .int .i64 m] 106)).grown hgrow (by have :=bX.size;simp;omega) (fun q hq=>(za HLT q hq).1));clear hownZ hgrow OWC bX HRC HNC HLT;go_wp2
   go_roundw
   case rel=>exact ⟨_,cnt1,T++[⟨p,k0,d,t,m⟩],za HRZ,by simp;omega,OWZ,HG2,bZ⟩
   case measure=>rw [(za HRZ).left_eq,za HLE];exact hlt
end zj7
end
section
open Go.RowKit Go.Maps
namespace WViewI
theorem rise_tree (B:Nat) (L:List Pl.Nd) (w:World) (ht:Pl.ze2 L=true) (hm:Mem.ownM w B L):
  Calls Tryz.prog 65 #[.map (some B)] w fun e w'=>∃v,e= .returned v∧Mem.ownN w' w.heap.size v L∧Below w.heap.size w w':=
 zj7.any B 40 L L (MapN.mapOf L) w hm (by omega) (MapN.reads_mapOf (Pl.zz1 ht)) (Pl.zz1 ht) (List.Perm.refl _) (Pl.tree_rise' ht) (fun n hn=>by
  have h2:=(((Pl.tree_iff _).1 ht).2.1 n hn).1;have h4:=(Pl.node_bounds h2).1
  exact ⟨(Pl.zg3 h2).1,by omega⟩)
end WViewI
end
end Go.Proofs.YtggadpalljhiaaaGreatDoor
