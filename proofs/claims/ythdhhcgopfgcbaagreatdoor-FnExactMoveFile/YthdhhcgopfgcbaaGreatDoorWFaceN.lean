import Derived.Test.YthdhhcgopfgcbaaGreatDoorWInNest
set_option linter.unusedSimpArgs false
namespace Go.Proofs.YthdhhcgopfgcbaaGreatDoor
open Go.RowKit
namespace zp2
open ze6
set_option maxRecDepth 100000 in
theorem yl (p:Addr) (x c:Int) (w:World) (hc:w.cell? p=some (.int .i64 x)) (hz:w.frozen? p=false) (hlt:p.block<w.heap.size):
  CallsD Tryz.prog 73 #[.pointer (some p)] (.panicking (pnc c)) w fun e u' w'=>
   e= .returned (.tuple #[])∧u'= .panicking [{ v:= .iface 119 (.agg #[.int .i64 c]),recovered:=true }]∧w'=(w.alloc (.cells #[.int .i64 c] 119)).setCell p (.int .i64 c):=by
 have hc2:(w.alloc (.cells #[.int .i64 c] 119)).cell? p=some (.int .i64 x):=by rw [((Below.refl w.heap.size w).alloc (Nat.le_refl _) _).cell hlt];exact hc
 have hz2:(w.alloc (.cells #[.int .i64 c] 119)).frozen? p=false:=by rw [((Below.refl w.heap.size w).alloc (Nat.le_refl _) _).frozen hlt];exact hz
 have hcode:=code_any c w;have hnq:∀w:World,(binOp BinOp.neq 20 (.iface 119 (.agg #[.int .i64 c])) .nilIface).run Tryz.prog w= .ok (.bool true) w:=fun _=>by kernel_rfl
 refine callsD_of_wpS Tryz.func73 rfl fun c₀ cs hu=>?_
 apply wpS_seq
 apply wpS_region
 simp [wpOpsS,go_sem,recoverD,hu,Tryz.ntmps73,Exit.thenS]
 refine wpS_of_wp ?_;generalize hK:(fun e a' w'=>bodyPostS _ _ _ _ _ e a' _ w')=K;simp only [Array.replicate_succ,Array.replicate_zero,List.push_toArray,List.append_toArray,List.nil_append,List.cons_append,kB3,kB4,kB5];go_wp2_with fail
 refine hcode.mono ?_;rintro e w1 ⟨rfl,rfl⟩;go_wp2_with fail
 subst hK;simp [bodyPostS,results,Tryz.results73]
set_option maxRecDepth 100000 in
theorem catchN_idle (p:Addr) (w:World):
  CallsD Tryz.prog 73 #[.pointer (some p)] .returning w fun e u' w'=>e= .returned (.tuple #[])∧u'= .returning∧w'=w:=by
 have hnq:∀w:World,(binOp BinOp.neq 20 .nilIface .nilIface).run Tryz.prog w= .ok (.bool false) w:=fun _=>by kernel_rfl
 refine callsD_of_wpS Tryz.func73 rfl fun c₀ cs hu=>?_
 apply wpS_seq
 apply wpS_region
 simp [wpOpsS,go_sem,recoverD,hu,Tryz.ntmps73,Exit.thenS]
 refine wpS_of_wp ?_;generalize hK:(fun e a' w'=>bodyPostS _ _ _ _ _ e a' _ w')=K;simp only [Array.replicate_succ,Array.replicate_zero,List.push_toArray,List.append_toArray,List.nil_append,List.cons_append,kB3,kB4,kB5];go_wp2_with fail
 subst hK;cases c₀
 simp_all [bodyPostS,results,Tryz.results73]
theorem zq2 {W:World} {S:Nat} {v:Value} {Is:List Pl.It} (h:Mem.Io W S v Is):∃a cap,v= .slice a Is.length cap:=zr8.conc h.row
theorem io_none (W:World) (S:Nat):Mem.Io W S (.slice none 0 0) []:=⟨World.ownsRow_nil _ _ _ _,fun i x hx=>by simp at hx,fun i j x y _ hx=>by simp at hx⟩
set_option maxRecDepth 100000 in
set_option maxHeartbeats 1000000 in
theorem facedN_any (K:FuncId) (cap:Array Value) (c:Int) (O:List (Int × List Pl.Nd)) (w:World) (hE:∀W,(callFunc K cap).run Tryz.prog W= .ok (.enter K cap) W) (hK:∀W,Below w.heap.size w W→Calls Tryz.prog K cap W fun e w'=>EndsN W w' e c O):
  Calls Tryz.prog 40 #[.func (.func K) #[] cap] w fun e w'=>∃v Is,e= .returned (.tuple #[v, .int .i64 c])∧Mem.Io w' w.heap.size v Is∧Is.map Pl.It.r=O∧Below w.heap.size w w':=by
 have hmf:∀ (fn:Fn) (first cap:Array Value) (w:World),(Instr.makeFunc fn first cap).run Tryz.prog w= .ok (.func fn first cap) w:=fun _ _ _ _=>rfl;have b0:Below w.heap.size w (w.alloc (.cells #[.int .i64 0] 2)):=bE0;have hs:(w.alloc (.cells #[.int .i64 0] 2)).heap.size=w.heap.size+1:=by simp
 have B0:=Mem.Blk.new w #[.int .i64 0] 2;have hk:=hide (hK _ b0);go_enter_defers Tryz.func40,Tryz.ntmps40
 go_wp2_with fail
 refine (za hk).mono ?_;rintro e w1 ⟨h,b1⟩;have bw:=b0.trans (b1.mono b0.size);have B1:=B0.call b1;rw [hs] at h;clear hk hK
 rcases h with ⟨rfl,v,Is,rfl,hio,hr⟩|⟨hc,rfl,rfl⟩
 ·obtain ⟨a,cp,rfl⟩:=zq2 hio;have c1:=B1.cell 0;have f1:=B1.fr 0;simp only [kA0,kA1] at c1;have B2:=B1.put 0 (.int .i64 0);have hio2:=hide (hio.set ⟨w.heap.size,0,none⟩ (.int .i64 0) (by show w.heap.size<w.heap.size+1;omega));have b2:=hide (bw.setCell (p:=⟨w.heap.size,0,none⟩) (Nat.le_refl _) (.int .i64 0));have HR:=hide hr;clear B1 hio bw b0 B0 hr;go_wp2_with fail
  refine leaves_cons (f:=73) (args:=#[.pointer (some ⟨w.heap.size,0,none⟩)]) (by simp) (by simp [go_sem]) ?_;refine (catchN_idle ⟨w.heap.size,0,none⟩ _).mono ?_;rintro e u' w'' ⟨rfl,rfl,rfl⟩;have d1:=B2.cell 0;simp only [kA0,kA1,kB3,kB4] at d1;simp [Leaves,settle,results,Tryz.results40,go_sem,d1]
  exact ⟨Is,(za hio2).mono (by omega),za HR,za b2⟩
 ·have d1:=B1.cell 0;have f1:=B1.fr 0;simp only [kA0,kA1] at d1;have hlt:=B1.lt;go_wp2_with fail
  refine leaves_cons (f:=73) (args:=#[.pointer (some ⟨w.heap.size,0,none⟩)]) (by simp) (by simp [go_sem]) ?_;refine (yl ⟨w.heap.size,0,none⟩ 0 c _ d1 f1 hlt).mono ?_;rintro e u' w'' ⟨rfl,rfl,rfl⟩;have B2:=(B1.alloc (.cells #[.int .i64 c] 119)).put 0 (.int .i64 c);have d1:=B2.cell 0;simp only [kA0,kA1,kB3,kB4] at d1;simp [Leaves,settle,results,Tryz.results40,go_sem,d1]
  exact ⟨[],io_none _ _,rfl,(bw.alloc bw.size _).setCell (Nat.le_refl _) _⟩
set_option maxRecDepth 100000 in
set_option maxHeartbeats 1000000 in
theorem nestFace_any (K:FuncId) (cap:Array Value) (c:Int) (O:List (Int × List Pl.Nd)) (w:World) (hE:∀W,(callFunc K cap).run Tryz.prog W= .ok (.enter K cap) W) (hK:∀W,Below w.heap.size w W→Calls Tryz.prog K cap W fun e w'=>EndsN W w' e c O):
  Calls Tryz.prog 21 #[.func (.func K) #[] cap] w fun e w'=>(∃v Is,e= .returned (.agg #[v, .int .i64 c])∧Mem.Io w' w.heap.size v Is∧Is.map Pl.It.r=O)∧Below w.heap.size w w':=by
 have b0:Below w.heap.size w (w.alloc (.cells #[.slice none 0 0, .int .i64 0] 26)):=bE0;have hs:(w.alloc (.cells #[.slice none 0 0, .int .i64 0] 26)).heap.size=w.heap.size+1:=by simp
 have A0:=Mem.Blk.new w #[.slice none 0 0, .int .i64 0] 26;have hk:=hide (facedN_any K cap c O _ hE (fun W b=>hK W (b0.trans (b.mono b0.size))));clear hK;go_enter Tryz.func21,Tryz.ntmps21
 go_wp2_with fail
 refine (za hk).mono ?_;rintro e w1 ⟨v,Is,rfl,hio,hr,b1⟩;obtain ⟨a,cp,rfl⟩:=zq2 hio;rw [hs] at hio;have A2:=A0.call b1;have bw:=hide (b0.trans (b1.mono b0.size));have HIO:=hide hio;have HR:=hide hr;obtain ⟨⟨c0,c1⟩,f0,f1⟩:=jf2 A2;clear hk b0 b1 A0 hio hr;go_wp2
 refine bodyPost_ret (v:= .agg #[.slice a Is.length cp, .int .i64 c]) (by simp [results,Tryz.results21,go_sem,c0,c1]) rfl ⟨⟨.slice a Is.length cp,Is,rfl,?_,za HR⟩,?_⟩
 ·exact (((za HIO).set _ _ (by show w.heap.size<w.heap.size+1;omega)).set _ _ (by show w.heap.size<w.heap.size+1;omega)).mono (by omega)
 ·exact ((za bw).setCell (Nat.le_refl _) _).setCell (Nat.le_refl _) _
end zp2
end Go.Proofs.YthdhhcgopfgcbaaGreatDoor
