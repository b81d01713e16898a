import Derived.Test.YthdhhcgopfgcbaaGreatDoorPlainWayR
import Derived.Test.YthdhhcgopfgcbaaGreatDoorPlainMove
import Derived.Test.YthdhhcgopfgcbaaGreatDoorWFaceN
import Derived.Test.YthdhhcgopfgcbaaGreatDoorG49
namespace Go.Proofs.YthdhhcgopfgcbaaGreatDoor
open Go.RowKit Go.Maps
namespace zp2
open ze6
theorem write_in (a:Option Addr) (cap:Nat) (Is:List Pl.It) (p d:ByteArray) (t:Int) (w:World) (hl:Is.length≤1048576) (hcap:Is.length≤cap) (hv:Mem.zb0 w a Is) (hok:∀x∈Is,x.t.L.length≤1048576∧∀n∈x.t.L,n.path.size≤1048576∧n.data.size≤1048576) (x:Nat→Addr) (hE:WIs.Six w x):
  Calls Tryz.prog 49 #[.agg (chg (⟨p,2,d,t,0⟩:Pl.Nd) 83 84), .slice a Is.length cap] w fun e w'=>EndsN w w' e (Pl.wrtN (Is.map Pl.It.r) p d t).1 (Pl.wrtN (Is.map Pl.It.r) p d t).2:=
 yn8 (⟨p,2,d,t,0⟩:Pl.Nd) 83 84 (fun S=>Pl.wrtC S ⟨p,2,d,t,0⟩) (fun S=>Pl.putL S ⟨p,2,d,t,0⟩) (fun _ L1 _=>Pl.putL L1 ⟨p,2,d,t,0⟩) a cap Is w hl hcap hv hok x hE (fun B W=>by kernel_rfl) (fun S h1 h2 B W' b' _ ho=>writeP_any B S ⟨p,2,d,t,0⟩ W' (Pl.zj0 h1) h2 x (hE.call b') ho) (fun g W=>by kernel_rfl) (fun S L1 qf qs lev N W h1 _ h3 h4 h5 h6 h7 _=>yb5.write_any qf qs N lev L1 ⟨p,2,d,t,0⟩ W h1 (Pl.zb1 h5).1 (by have :=(Pl.zd8 h5).1;simp only at this ⊢;omega) h6 h7) (fun S L1 lev h1 h3 h4 h5=>h1.put (Pl.zb1 h5).1 (by have :=(Pl.zd8 h5).1;simp only at this ⊢;omega)) (fun S h1 h2 h3=>Pl.way_write (Pl.zj0 h1) h3 h2)
theorem remove_in (a:Option Addr) (cap:Nat) (Is:List Pl.It) (p:ByteArray) (w:World) (hl:Is.length≤1048576) (hcap:Is.length≤cap) (hv:Mem.zb0 w a Is) (hok:∀x∈Is,x.t.L.length≤1048576∧∀n∈x.t.L,n.path.size≤1048576∧n.data.size≤1048576) (x:Nat→Addr) (hE:WIs.Six w x):
  Calls Tryz.prog 49 #[.agg (chg (⟨p,1,⟨#[]⟩,0,0⟩:Pl.Nd) 93 94), .slice a Is.length cap] w fun e w'=>EndsN w w' e (Pl.remN (Is.map Pl.It.r) p).1 (Pl.remN (Is.map Pl.It.r) p).2:=
 yn8 (⟨p,1,⟨#[]⟩,0,0⟩:Pl.Nd) 93 94 (fun S=>Pl.remC S p) (fun S=>Pl.offL p S) (fun _ L1 lev=>Pl.remL L1 p lev) a cap Is w hl hcap hv hok x hE (fun B W=>by kernel_rfl) (fun S h1 h2 B W' _ _ ho=>removeP_any B S ⟨p,1,⟨#[]⟩,0,0⟩ W' (Pl.zj0 h1) (Pl.zb1 h2).1 ho) (fun g W=>by kernel_rfl) (fun S L1 qf qs lev N W h1 h2 h3 h4 h5 h6 h7 _=>yb5.remove_any qf qs N lev L1 ⟨p,1,⟨#[]⟩,0,0⟩ W h1 (Pl.zb1 h5).1 h6 (by omega) h7) (fun S L1 lev h1 h3 h4 h5=>Pl.rem_rise h1 (Pl.zb1 h5).1 lev) (fun S h1 h2 h3=>Pl.way_rem (Pl.zj0 h1) h2)
set_option linter.unusedSimpArgs false in
set_option maxRecDepth 100000 in
set_option maxHeartbeats 4000000 in
theorem moved_any (a:Option Addr) (cap:Nat) (Is:List Pl.It) (f t:ByteArray) (w:World) (hl:Is.length≤1048576) (hcap:Is.length≤cap) (hv:Mem.zb0 w a Is) (hok:∀x∈Is,x.t.L.length≤1048576∧∀n∈x.t.L,n.path.size≤1048576∧n.data.size≤1048576) (x:Nat→Addr) (hE:WIs.Six w x):
  Calls Tryz.prog 23 #[.slice a Is.length cap, .string f, .string t] w fun e w'=>EndsN w w' e (Pl.movN (Is.map Pl.It.r) f t).1 (Pl.movN (Is.map Pl.It.r) f t).2:=by
 have hxl:(Is.map Pl.It.r).length=Is.length:=List.length_map ..;have HNE:=hide (fun W (b:Below w.heap.size w W)=>zr8.nest_any a cap Is W hl hcap (Mem.zb2 hv b) hok _ _ _ _ _ _ _ _ (zq4.six4 (hE.call b)));have HSI:=hide (fun W (b:Below w.heap.size w W)=>zq4.sight_any a cap Is W hl hcap (Mem.zb2 hv b) hok x (hE.call b));have HWR:=hide (fun (d:ByteArray) (n:Int) W (b:Below w.heap.size w W)=>write_in a cap Is t d n W hl hcap (Mem.zb2 hv b) hok x (hE.call b));have HE:=hide (fun W (b:Below w.heap.size w W)=>hE.call b)
 have ER:Hid (Pl.movN (Is.map Pl.It.r) f t=if 8000<f.size∨8000<t.size then (2,[]) else
  if 400<Is.length then (2,[]) else
  if (Pl.nest (Pl.rowO (Is.map Pl.It.r))).isSome=true then
   if Pl.wayB f=true∧Pl.wayB t=true then
    if Pl.zb9 (Is.map Pl.It.r)=0 then
     match Pl.lk (Pl.zb8 (Is.map Pl.It.r)) f with
     |none=>(6,[])
     |some n=>if n.kind=2 then (if t=f then (7,[]) else if (Pl.wrtN (Is.map Pl.It.r) t n.data n.time).1=0 then Pl.remN (Pl.wrtN (Is.map Pl.It.r) t n.data n.time).2 f else Pl.wrtN (Is.map Pl.It.r) t n.data n.time) else (11,[])
    else (Pl.zb9 (Is.map Pl.It.r),[])
   else (1,[])
  else (1,[])):=hide (by unfold Pl.movN;rw [hxl];rfl)
 have HOK:Hid (∀d n,(∀y∈(Pl.wrtN (Is.map Pl.It.r) t d n).2,Pl.zc9 y.2)∧(Pl.wrtN (Is.map Pl.It.r) t d n).2.length≤12∧∀y∈(Pl.wrtN (Is.map Pl.It.r) t d n).2,y.2.length≤40):=hide (fun d n=>⟨(Pl.wrt_ok _ _ _ _).1,Pl.wrt_le _ _ _ _⟩);have HVP:Hid (Pl.zb9 (Is.map Pl.It.r)=0→Pl.zd0 (Pl.zb8 (Is.map Pl.It.r))=true):=hide (fun h=>Pl.zq7 h);have hsl:=Pl.yc (Is.map Pl.It.r);generalize Pl.movN (Is.map Pl.It.r) f t=R at ER ⊢;generalize Pl.zb9 (Is.map Pl.It.r)=VC at ER HSI HVP;generalize Pl.zb8 (Is.map Pl.It.r)=S at ER HSI HVP hsl
 have HLE:Hid ((Pl.nest (Pl.rowO (Is.map Pl.It.r))).isSome=true→Is.length≤12):=hide (fun h=>by
  obtain ⟨F,hF⟩:=Option.isSome_iff_exists.1 h;have h1:=Pl.zo6 hF
  rw [List.length_map] at h1;exact h1)
 generalize Pl.nest (Pl.rowO (Is.map Pl.It.r))=NN at HNE ER HLE;clear hv hok hE hxl;by_cases hs1:8000<f.size
 ·have eR:R=(2,[]):=by have :=za ER;rw [if_pos (.inl hs1)] at this;exact this
  subst eR;have u1:(8000:Int)<(f.size:Int):=by omega
  have u2:decide ((8000:Int)<(f.size:Int))=true:=decide_eq_true u1;clear ER HNE HSI HWR HE HOK HVP HLE;go_enter Tryz.func23,Tryz.ntmps23
  go_wp2_with fail
  refine (zg 2 _).mono ?_;rintro e wR ⟨rfl,hwR⟩;subst wR;go_wp2_with fail
  exact ⟨rfl,⟨.inr ⟨by decide,rfl,rfl⟩,Below.refl _ _⟩⟩
 have u1:¬ (8000:Int)<(f.size:Int):=by omega
 have u2:decide ((8000:Int)<(f.size:Int))=false:=decide_eq_false u1;by_cases hs2:8000<t.size
 ·have eR:R=(2,[]):=by have :=za ER;rw [if_pos (.inr hs2)] at this;exact this
  subst eR;have u3:(8000:Int)<(t.size:Int):=by omega
  have u4:decide ((8000:Int)<(t.size:Int))=true:=decide_eq_true u3;clear ER HNE HSI HWR HE HOK HVP HLE;go_enter Tryz.func23,Tryz.ntmps23
  go_wp2_with fail
  refine (zg 2 _).mono ?_;rintro e wR ⟨rfl,hwR⟩;subst wR;go_wp2_with fail
  exact ⟨rfl,⟨.inr ⟨by decide,rfl,rfl⟩,Below.refl _ _⟩⟩
 have u3:¬ (8000:Int)<(t.size:Int):=by omega
 have u4:decide ((8000:Int)<(t.size:Int))=false:=decide_eq_false u3;have ER:=hide (by have :=za ER;rw [if_neg (by omega)] at this;exact this);have hf:f.size≤1048576:=by omega
 have ht:t.size≤1048576:=by omega
 have HRF:=hide (fun W=>zq3.zl6 f W hf);have HRT:=hide (fun W=>zq3.zl6 t W ht);have HF:=hide hf;clear hs1 hs2 hf ht;go_enter Tryz.func23,Tryz.ntmps23
 go_wp2_with fail
 refine (zi2 2 _).mono ?_;rintro e wR ⟨rfl,hwR⟩;subst wR;clear u1 u2 u3 u4;go_wp2_with fail
 refine (za HNE _ (Below.refl _ _)).mono ?_;rintro e w2 ⟨hN,bw2⟩;clear HNE
 rcases hN with ⟨L,K,q,a1,cap1,hNN,rfl, -, -, -⟩|⟨hNN,r,y,rfl,hwhy⟩
 rotate_left
 ·have bw3:=bw2.alloc bw2.size (.cells #[.map none, .int .i64 0, .slice none 0 0] 83)
  rcases hwhy with ⟨h4,rfl,rfl⟩|⟨h4,rfl,rfl⟩
  ·have eR:R=(2,[]):=by have :=za ER;rw [if_pos h4] at this;exact this
   subst eR;have hcd:=hide (WIs.code0 x _ (za HE _ bw3));clear ER HSI HWR HE HRF HRT HOK HVP hNN;go_wp2_with fail
   refine (za hcd).mono ?_;rintro e w3 ⟨rfl,hw3⟩;subst w3;go_wp2_with fail
   refine (zu3 2 (by decide) _).mono ?_;rintro e wR ⟨rfl,hwR⟩;subst wR;go_wp2_with fail
   exact ⟨rfl,⟨.inr ⟨(by decide),rfl,rfl⟩,bw3⟩⟩
  ·have eR:R=(1,[]):=by have :=za ER;rw [if_neg (by omega),hNN,if_neg (by simp)] at this;exact this
   subst eR;have hcd:=hide (WIs.code1 x _ (za HE _ bw3));clear ER HSI HWR HE HRF HRT HOK HVP hNN;go_wp2_with fail
   refine (za hcd).mono ?_;rintro e w3 ⟨rfl,hw3⟩;subst w3;go_wp2_with fail
   refine (zu3 1 (by decide) _).mono ?_;rintro e wR ⟨rfl,hwR⟩;subst wR;go_wp2_with fail
   exact ⟨rfl,⟨.inr ⟨(by decide),rfl,rfl⟩,bw3⟩⟩
 have h400:Is.length≤400:=by have h:=za HLE (by rw [hNN];rfl);omega
 have ER:=hide (by have :=za ER;rw [if_neg (by omega),hNN,if_pos (show (some K.shape).isSome=true from rfl)] at this;exact this);have bw3:=bw2.alloc bw2.size (.cells #[.map (some q), .int .i64 (K.len:Int), .slice a1 K.len cap1] 83);clear hNN h400 bw2;go_wp2_with fail
 generalize w2.alloc (.cells #[.map (some q), .int .i64 (K.len:Int), .slice a1 K.len cap1] 83)=w3 at bw3 ⊢;refine (WCutF.code_nil _).mono ?_;rintro e wR ⟨rfl,hwR⟩;subst wR;go_wp2_with fail
 refine (ya4 _).mono ?_;rintro e wR ⟨rfl,hwR⟩;subst wR;by_cases hfz:f.size=0
 ·have eR:R=(1,[]):=by have :=za ER;rw [if_neg (by unfold Pl.wayB;simp [hfz])] at this;exact this
  subst eR;have t1:f.toList.isEmpty=true:=by rw [Pl.zd2];simpa [Pl.zh2] using hfz
  clear ER HSI HWR HE HRF HRT HOK HVP;go_wp2_with fail
  refine (zg 1 _).mono ?_;rintro e wR ⟨rfl,hwR⟩;subst wR;go_wp2_with fail
  exact ⟨rfl,⟨.inr ⟨by decide,rfl,rfl⟩,bw3⟩⟩
 have t1:f.toList.isEmpty=false:=by rw [Pl.zd2];simpa [Pl.zh2] using hfz
 by_cases htz:t.size=0
 ·have eR:R=(1,[]):=by have :=za ER;rw [if_neg (by unfold Pl.wayB;simp [htz])] at this;exact this
  subst eR;have t2:t.toList.isEmpty=true:=by rw [Pl.zd2];simpa [Pl.zh2] using htz
  clear ER HSI HWR HE HRF HRT HOK HVP;go_wp2_with fail
  refine (zg 1 _).mono ?_;rintro e wR ⟨rfl,hwR⟩;subst wR;go_wp2_with fail
  exact ⟨rfl,⟨.inr ⟨by decide,rfl,rfl⟩,bw3⟩⟩
 have t2:t.toList.isEmpty=false:=by rw [Pl.zd2];simpa [Pl.zh2] using htz
 go_wp2_with fail
 refine (za HRF _).mono ?_;rintro e w4 ⟨rfl,b4⟩;have bw4:=bw3.trans (b4.mono bw3.size);clear HRF bw3 b4;cases hpf:Pl.za1 f with
 |false=>
  have eR:R=(1,[]):=by have :=za ER;rw [if_neg (by unfold Pl.wayB;simp [hpf])] at this;exact this
  subst eR;clear ER HSI HWR HE HRT HOK HVP;go_wp2_with fail
  refine (zg 1 _).mono ?_;rintro e wR ⟨rfl,hwR⟩;subst wR;go_wp2_with fail
  exact ⟨rfl,⟨.inr ⟨by decide,rfl,rfl⟩,bw4⟩⟩
 |true=>
 go_wp2_with fail
 refine (za HRT _).mono ?_;rintro e w5 ⟨rfl,b5⟩;have bw5:=bw4.trans (b5.mono bw4.size);clear HRT bw4 b5;cases hpt:Pl.za1 t with
 |false=>
  have eR:R=(1,[]):=by have :=za ER;rw [if_neg (by unfold Pl.wayB;simp [hpt])] at this;exact this
  subst eR;clear ER HSI HWR HE HOK HVP;go_wp2_with fail
  refine (zg 1 _).mono ?_;rintro e wR ⟨rfl,hwR⟩;subst wR;go_wp2_with fail
  exact ⟨rfl,⟨.inr ⟨by decide,rfl,rfl⟩,bw5⟩⟩
 |true=>
 have ER:=hide (by have :=za ER;rw [if_pos (by unfold Pl.wayB;simp [hpf,hpt,hfz,htz])] at this;exact this);have HPF:=hide (⟨hfz,hpf⟩:¬f.size=0∧Pl.za1 f=true);clear hpf hpt hfz htz;go_wp2_with fail
 refine (zi2 1 _).mono ?_;rintro e wR ⟨rfl,hwR⟩;subst wR;clear t1 t2;go_wp2_with fail
 refine (za HSI _ bw5).mono ?_;rintro e w6 ⟨v5,rfl,own5,b6⟩;obtain ⟨sa,sc,rfl⟩:=Mem.za4 own5;have hnv:=(Mem.ze9 own5).2;have b7:Below w5.heap.size w5 (w6.alloc (.cells #[.slice sa S.length sc, .int .i64 VC] 64)):=b6.alloc b6.size _;have bw7:=bw5.trans (b7.mono bw5.size);have T7:=Mem.Blk.new w6 #[.slice sa S.length sc, .int .i64 VC] 64;have D7:=hide (Mem.za0 hnv ((Below.refl _ _).alloc (Nat.le_refl _) (.cells #[.slice sa S.length sc, .int .i64 VC] 64)));have t0:=T7.cell 0;have t1:=T7.cell 1;simp only [kGs] at t0 t1;clear own5 hnv b6 b7 bw5 HSI;go_upto_region 6 with fail
 generalize w6.alloc (.cells #[.slice sa S.length sc, .int .i64 VC] 64)=w7 at bw7 T7 D7 t0 t1 ⊢;generalize w6.heap.size=X7 at T7 t0 t1 ⊢;by_cases hvc:VC=0
 rotate_left
 ·have eR:R=(VC,[]):=by have :=za ER;rw [if_neg hvc] at this;exact this
  subst eR;clear ER HWR HE HOK HVP;go_wp2_with fail
  refine (zu3 VC hvc _).mono ?_;rintro e wR ⟨rfl,hwR⟩;subst wR;go_wp2_with fail
  exact ⟨rfl,⟨.inr ⟨hvc,rfl,rfl⟩,bw7⟩⟩
 subst hvc;have ER:=hide (by have :=za ER;rw [if_pos rfl] at this;exact this);have hpl:=za HVP rfl;have htr:=Pl.zj0 hpl;have HSO:Hid (∀m∈S,m.path.size≤1048576∧m.data.size≤1048576):=hide (Pl.zx5 (Pl.zc9.zr0 htr));have HGT:=hide (WGetT.zk6 sa sc S f w7 (by omega) (za D7) (za HSO) (za HF) x (za HE _ bw7));have HGN:=hide (fun hn=>Pl.get_none (L:=S) (p:=f) (by have :=Pl.zd1 (za HPF).2;omega) (by rw [htr,(za HPF).2];simp [(za HPF).1]) hn);have HGS:=hide (fun m hn=>Pl.get_some (L:=S) (p:=f) (m:=m) (by have :=Pl.zd1 (za HPF).2;omega) (by rw [htr,(za HPF).2];simp [(za HPF).1]) hn);clear HVP D7 HSO htr hpl HF HPF hsl;go_wp2_with fail
 refine (ya4 _).mono ?_;rintro e wR ⟨rfl,hwR⟩;subst wR;cases hlk:Pl.lk S f with
 |none=>
  have eR:R=(6,[]):=by have :=za ER;rw [hlk] at this;exact this
  subst eR;have hg:=za HGN hlk;rw [hg] at HGT;clear ER HWR HE HOK HGN HGS hg hlk;go_wp2_with fail
  refine (za HGT).mono ?_;rintro e w8 ⟨rfl,b8⟩;have bw8:=bw7.trans (b8.mono bw7.size);have bw9:=bw8.alloc bw8.size (.cells #[.string ⟨#[]⟩, .int .i64 0, .string ⟨#[]⟩, .int .i64 0, .int .i64 0, .int .i64 6] 91);clear HGT bw7 b8 bw8 T7 t0 t1;go_wp2_with fail
  refine (zu3 6 (by decide) _).mono ?_;rintro e wR ⟨rfl,hwR⟩;subst wR;go_wp2_with fail
  exact ⟨rfl,⟨.inr ⟨(by decide),rfl,rfl⟩,bw9⟩⟩
 |some n=>
 have ER:=hide (by have :=za ER;rw [hlk] at this;exact this);have hg:=za HGS n hlk;rw [hg] at HGT;clear HGN HGS hg hlk;obtain ⟨np,nk,nd,nt,nm⟩:=n;simp only at ER HGT;go_wp2_with fail
 refine (za HGT).mono ?_;rintro e w8 ⟨rfl,b8⟩;have bw8:=bw7.trans (b8.mono bw7.size);have bw9:=bw8.alloc bw8.size (.cells #[.string np, .int .i64 nk, .string nd, .int .i64 nt, .int .i64 nm, .int .i64 0] 91);have T9:=Mem.Blk.new w8 #[.string np, .int .i64 nk, .string nd, .int .i64 nt, .int .i64 nm, .int .i64 0] 91;have n1:=T9.cell 1;have n2:=T9.cell 2;have n3:=T9.cell 3;have n5:=T9.cell 5;simp only [kGs] at n1 n2 n3 n5;clear HGT bw7 b8 bw8 T7 t0 t1;go_upto_region 8 with fail
 generalize w8.alloc (.cells #[.string np, .int .i64 nk, .string nd, .int .i64 nt, .int .i64 nm, .int .i64 0] 91)=w9 at bw9 T9 n1 n2 n3 n5 ⊢;generalize w8.heap.size=X9 at T9 n1 n2 n3 n5 ⊢;go_wp2_with fail
 refine (ya4 _).mono ?_;rintro e wR ⟨rfl,hwR⟩;subst wR;by_cases hk:nk=2
 rotate_left
 ·have eR:R=(11,[]):=by have :=za ER;rw [if_neg hk] at this;exact this
  subst eR;have z1:(nk !=2)=true:=by simpa using hk
  have z2:decide (nk=2)=false:=by simpa using hk
  clear ER HWR HE HOK;go_wp2_with fail
  refine (zg 11 _).mono ?_;rintro e wR ⟨rfl,hwR⟩;subst wR;go_wp2_with fail
  exact ⟨rfl,⟨.inr ⟨by decide,rfl,rfl⟩,bw9⟩⟩
 subst hk;have ER:=hide (by have :=za ER;rw [if_pos rfl] at this;exact this);go_wp2_with fail
 refine (zi2 11 _).mono ?_;rintro e wR ⟨rfl,hwR⟩;subst wR;by_cases hft:t=f
 ·have eR:R=(7,[]):=by have :=za ER;rw [if_pos hft] at this;exact this
  subst eR;subst hft;clear ER HWR HE HOK;go_wp2_with fail
  refine (zg 7 _).mono ?_;rintro e wR ⟨rfl,hwR⟩;subst wR;go_wp2_with fail
  exact ⟨rfl,⟨.inr ⟨by decide,rfl,rfl⟩,bw9⟩⟩
 have ER:=hide (by have :=za ER;rw [if_neg hft] at this;exact this);have z3:=Pl.zq1 hft;go_wp2_with fail
 refine (zi2 7 _).mono ?_;rintro e wR ⟨rfl,hwR⟩;subst wR;have HWA:=hide (za HWR nd nt);have hok2:=za HOK nd nt;have HWW:=hide (writing_any t nd nt);have HRW:=hide (removing_any f);have ER2:=hide (by have :=za ER;exact this);generalize Pl.wrtN (Is.map Pl.It.r) t nd nt=WR at HWA hok2 ER2;obtain ⟨wc,wx⟩:=WR;simp only at HWA hok2 ER2;have HK2:=hide hok2;clear ER HWR HOK hok2 hft z3;go_wp2_with fail
 refine (za HWW _).mono ?_;rintro e w10 ⟨rfl,b10⟩;have bw10:=bw9.trans (b10.mono bw9.size);clear HWW b10 bw9 n1 n2 n3 n5 T9;go_wp2_with fail
 refine (za HWA _ bw10).mono ?_;rintro e w11 ⟨h11,b11⟩;have bw11:=bw10.trans (b11.mono bw10.size);clear HWA
 rcases h11 with ⟨hc,v,Js,rfl,hio,hr⟩|⟨hc,hx,rfl⟩
 rotate_left
 ·have eR:R=(wc,[]):=by have :=za ER2;rw [if_neg hc,hx] at this;exact this
  subst eR;have HC:=hide hc;clear ER2 HE HK2 HRW hx hc;go_wp2_with fail
  exact ⟨rfl,⟨.inr ⟨za HC,rfl,rfl⟩,bw11⟩⟩
 obtain ⟨a2,cap2,rfl⟩:=zq2 hio;subst hc;subst hr;have ER3:=hide (by have :=za ER2;rw [if_pos rfl] at this;exact this);obtain ⟨k1,k2,k3⟩:=za HK2
 have hcp:Js.length≤cap2:=by
  rcases hio.row.2 with ⟨e,h0⟩|⟨g,c,cur,e, -, -,h, -⟩
  ·rw [h0];exact Nat.zero_le _
  ·injection e with _ _ e3;rw [e3];exact h
 have hjl:Js.length≤12:=by rw [List.length_map] at k2;exact k2
 have hjo:∀y∈Js,y.t.L.length≤1048576∧∀n∈y.t.L,n.path.size≤1048576∧n.data.size≤1048576:=fun y hy=>⟨by have :=k3 y.r (List.mem_map.2 ⟨y,hy,rfl⟩);have e:y.r.2=y.t.L:=rfl;rw [e] at this;omega,Pl.zx5 (k1 y.r (List.mem_map.2 ⟨y,hy,rfl⟩))⟩;have HRI:=hide (fun W (b:Below w11.heap.size w11 W)=>remove_in a2 cap2 Js f W (by omega) hcp (Mem.zb2 hio.items.2 b) hjo x (za HE _ (bw11.trans (b.mono bw11.size))));have eR:R=Pl.remN (Js.map Pl.It.r) f:=za ER3;clear ER2 ER3 HE HK2 k1 k2 k3 hcp hjl hjo bw10 b11 hio;rw [←eR] at HRI;clear eR;go_wp2_with fail
 refine (za HRW _).mono ?_;rintro e w12 ⟨rfl,b12⟩;have bw12:=bw11.trans (b12.mono bw11.size);have HRJ:=hide (za HRI _ b12);clear HRW HRI b12 bw11;go_wp2_with fail
 refine (za HRJ).mono ?_;rintro e w13 ⟨h13,b13⟩;have bw13:=bw12.trans (b13.mono bw12.size)
 rcases h13 with ⟨hc,v,Ks,rfl,hio,hr⟩|⟨hc,hx,rfl⟩
 ·obtain ⟨a3,cap3,rfl⟩:=zq2 hio;have HIO:=hide (hio.mono bw12.size);have HC:=hide hc;have HR:=hide hr;clear HRJ b13 hio hc hr;go_wp2
  go_ret
  exact ⟨.inl ⟨za HC,_,Ks,rfl,za HIO,za HR⟩,bw13⟩
 ·have HC:=hide hc;have HX:=hide hx;clear HRJ b13 hc hx;go_wp2_with fail
  exact ⟨rfl,⟨.inr ⟨za HC,za HX,rfl⟩,bw13⟩⟩
end zp2
end Go.Proofs.YthdhhcgopfgcbaaGreatDoor
