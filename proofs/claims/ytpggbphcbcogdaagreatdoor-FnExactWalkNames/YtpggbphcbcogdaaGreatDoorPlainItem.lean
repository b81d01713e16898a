import Derived.Test.YtpggbphcbcogdaaGreatDoorPlainTree
import Derived.Test.YtpggbphcbcogdaaGreatDoorPlainNest
namespace Go.Proofs.YtpggbphcbcogdaaGreatDoor
namespace Pl
def ze3 (m:Int) (L:List Nd):Bool:=decide (0≤m)&&decide (m≤4)&&(decide (m=0)||L.isEmpty)&&zb9 L
def zi2 (x:Int × List Nd):Option Nat:=if ze3 x.1 x.2=true then some x.1.toNat else none
def rowO (xs:List (Int × List Nd)):Row:=xs.map zi2
theorem treeB_nil:zb9 []=true:=by rfl
theorem zy1 (L:List Nd):ze3 0 L=zb9 L:=by simp [ze3]
theorem zr9 {m:Int} (h:m≠0) (L:List Nd):ze3 m L=(decide (1≤m)&&decide (m≤4)&&decide (L.length=0)):=by
 unfold ze3;rw [show decide (m=0)=false from decide_eq_false h,Bool.false_or];have e:decide (0≤m)=decide (1≤m):=decide_eq_decide.2 (by omega);rw [e];cases L with
 |nil=>simp [treeB_nil]
 |cons a L=>simp
theorem zq9 {m:Int} {L:List Nd} (h:ze3 m L=true):0≤m∧m≤4:=by
 simp [ze3] at h
 exact ⟨h.1.1.1,h.1.1.2⟩
theorem zv0 {m:Int} {L:List Nd} (h:ze3 m L=true):zi2 (m,L)=some m.toNat:=by simp [zi2,h]
theorem itemO_no {m:Int} {L:List Nd} (h:ze3 m L=false):zi2 (m,L)=none:=by simp [zi2,h]
theorem itemO_some {x:Int × List Nd} {k:Nat} (h:zi2 x=some k):x.1=(k:Int)∧k≤4:=by
 unfold zi2 at h
 split at h
 ·rename_i hb
  have :=zq9 hb;cases h
  omega
 ·cases h
theorem zj7 (xs:List (Int × List Nd)):(rowO xs).length=xs.length:=by simp [rowO]
theorem rowO_at {xs:List (Int × List Nd)} {i:Nat} {x:Int × List Nd} (h:xs[i]? =some x):(rowO xs).drop i=zi2 x::(rowO xs).drop (i+1):=by
 obtain ⟨h1,h2⟩:=List.getElem?_eq_some_iff.1 h;rw [List.drop_eq_getElem_cons (by rw [zj7];exact h1)]
 congr 1
 simp [rowO,h2]
def endI (n:Nat):Option Row→Int
 |none=> -1
 |some R=>(n:Int) - (R.length:Int)
theorem ends_at {k deep p n:Nat} {L R:Row} (hn:L.length=n) (hp:p≤n) (h:ends k deep (L.drop p)=some R):∃p':Nat,endI n (some R)=(p':Int)∧p'≤n∧L.drop p'=R:=by
 obtain ⟨h1,h2⟩:=ends_len h;rw [List.length_drop] at h1 h2;refine ⟨n - R.length,by rw [endI];omega,by omega,?_⟩;rw [List.drop_drop] at h2;have e:p+(L.length - p - R.length)=n - R.length:=by omega
 rw [e] at h2;exact h2.symm
def Fo.sz:Fo→Nat
 | .nil=>0
 | .cons k m=>k.sz+m.sz+1
theorem Fo.len_le (F:Fo):F.len≤F.sz:=by
 induction F with
 |nil=>simp [Fo.len]
 |cons k m _ ih=>simp only [Fo.len,Fo.sz];omega
theorem Fo.depth_le (F:Fo):F.depth≤F.sz:=by
 induction F with
 |nil=>simp [Fo.depth]
 |cons k m ih1 ih2=>simp only [Fo.depth,Fo.sz];omega
theorem parse_sz (f:Nat):∀k L F R,parse f k L=some (F,R)→F.sz+R.length=L.length:=by
 induction f with
 |zero=>
  intro k L F R h;cases k with
  |zero=>simp [parse] at h;obtain ⟨rfl,rfl⟩:=h;simp [Fo.sz]
  |succ k=>simp [parse] at h
 |succ f ih=>
  intro k L F R h;cases k with
  |zero=>simp [parse] at h;obtain ⟨rfl,rfl⟩:=h;simp [Fo.sz]
  |succ k=>
   match L,h with
   | [],h=>simp [parse] at h
   |none::L,h=>simp [parse] at h
   |some m::L,h=>
    simp only [parse] at h
    split at h
    ·cases h
    ·rename_i kids R1 h1
     split at h
     ·cases h
     ·rename_i more R2 h2
      cases h
      have a1:=ih _ _ _ _ h1;have a2:=ih _ _ _ _ h2;simp only [Fo.sz,List.length_cons];omega
theorem take_sz {k:Nat} {L R:Row} {F:Fo} (h:take k L=some (F,R)):F.sz+R.length=L.length:=parse_sz _ _ _ _ _ h
theorem nest_fail {L:Row} (h:take 1 L=none):nest L=none:=by
 unfold nest;rw [h];simp
theorem nest_rest {L R:Row} {k:Fo} (h:take 1 L=some (.cons k .nil,R)) (hR:R.length≠0):nest L=none:=by
 unfold nest;rw [h];cases R with
 |nil=>simp at hR
 |cons a b=>simp
theorem nest_deep {L R:Row} {k:Fo} (h:take 1 L=some (.cons k .nil,R)) (hd:4<k.depth+1):nest L=none:=by
 unfold nest;rw [h];cases R with
 |nil=>simp only;rw [if_neg (show ¬k.depth≤3 by omega)];simp
 |cons a b=>simp
theorem nest_ok {L R:Row} {k:Fo} (h12:L.length≤12) (h:take 1 L=some (.cons k .nil,R)) (hR:R.length=0) (hd:¬4<k.depth+1):nest L=some k:=by
 have e:R=[]:=List.eq_nil_of_length_eq_zero hR;subst e;unfold nest;rw [if_pos h12,h];simp only;rw [if_pos (show k.depth≤3 by omega)]
def went (F:Fo) (o:Option (Fo × Row)):Option (Fo × Row):=o.map (fun y=>(F.app y.1,y.2))
theorem went_start (o:Option (Fo × Row)):went .nil o=o:=by cases o <;> rfl
theorem went_step {F kids:Fo} {k:Nat} {L R:Row} (h:take 1 L=some (.cons kids .nil,R)):went F (take (k+1) L)=went (F.app (.cons kids .nil)) (take k R):=by
 rw [zu1,h];cases h2:take k R with
 |none=>simp [went,h2]
 |some y=>obtain ⟨m,R'⟩:=y;simp [went,h2,Fo.app_assoc]
theorem went_fail {F:Fo} {k:Nat} {L:Row} (h:take 1 L=none):went F (take (k+1) L)=none:=by
 rw [zu1,h];rfl
theorem went_end (F:Fo) (L:Row):went F (take 0 L)=some (F,L):=by simp [went,take_zero,Fo.app_nil]
theorem rowO_drop (xs:List (Int × List Nd)) (k:Nat):(rowO xs).drop k=rowO (xs.drop k):=by simp [rowO,List.map_drop]
end Pl
end Go.Proofs.YtpggbphcbcogdaaGreatDoor
