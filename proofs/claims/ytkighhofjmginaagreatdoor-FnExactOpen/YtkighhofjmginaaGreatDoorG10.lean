/- Several texts of one claim in one file: MemApp2, WNode, WJoin, WPathOf, WParentI, WNodesI, WNodesJ. -/
import Derived.Test.YtkighhofjmginaaGreatDoorG07
import Derived.Test.YtkighhofjmginaaGreatDoorG08
namespace Go.Proofs.YtkighhofjmginaaGreatDoor
section
open Go.RowKit
namespace Mem
theorem zu4 {P:Program} (w:World) (base:Nat) (t ty e:TypeId) (i:TypeInfo) (z:Value) (size bytes:Nat) (ht:P.underlying t=some (.slice e)) (hi:P.info? e=some i) (hz:i.zero=some z)
  (hsize:i.size=size) (hby:i.bytes=bytes) (hzs:z.cells.size=size) (hsz:0<size)
  (v:Value) (n:Nat) (xs:List Value) (hown:w.ownsRow base e size v n xs)
  (a:Addr) (m c:Nat) (news:List Value) (hl:news.length=m*size) (hnews:∀j u,news[j]? =some u→w.cell? (a.add j)=some u) (h1:∀u∈news,u.oneCell'=true)
  (h63:n+m≤maxLen) (hbytes:(n+m)*bytes≤140737488355328) (hbase:base≤w.heap.size):
  ∃v' w',(Builtin.append_ #[t,t] ty #[v, .slice (some a) m c]).run P w= .ok v' w'∧w'.ownsRow base e size v' (n+m) (xs++news)∧w.grownBy w' v.ownBlock∧∀g,v'.ownBlock=some g→v.ownBlock=some g∨w.heap.size≤g:=by
 obtain ⟨v',w',hr,h2,h3, -⟩:=run_append_own (P:=P) w base t ty e i z size bytes ht hi hz hsize hby hzs hsz v n xs hown a m c news hl hnews h1 h63 hbytes hbase;refine ⟨v',w',hr,h2,h3,?_⟩
 rcases hown.2 with ⟨rfl,rfl⟩|⟨g,cap,cur,rfl,hbg,hg,hnc,hcm,hcs,htake⟩
 ·have hx:xs=[]:=List.eq_nil_of_length_eq_zero (by simpa using hown.1);subst hx;obtain ⟨v2,w2,hr2,k2, -, -⟩:=run_append_own (P:=P) w w.heap.size t ty e i z size bytes ht hi hz hsize hby hzs hsz _ 0 [] (World.ownsRow_nil w w.heap.size e size) a m c news hl hnews h1 h63 hbytes (Nat.le_refl _);rw [hr] at hr2;cases hr2
  exact fun g hg=> .inr (k2.lt g hg).1
 ·subst hsize hby
  by_cases hroom:n+m≤cap
  ·have hfit:n*i.size+news.length≤cur.size:=by rw [hl,hcs,←Nat.add_mul];exact Nat.mul_le_mul_right _ hroom
   rw [run_append_room (P:=P) w t ty e i ht hi g n cap cur hg a m c news hl hnews h1 hroom hfit] at hr;cases hr
   exact fun g hg=> .inl hg
  ·have holds:∀j u,xs[j]? =some u→w.cell? ((⟨g,0,none⟩:Addr).add j)=some u:=hown.cells (g:=g) rfl;have hsmall:n+m≤9223372036854775807:=by simp only [maxLen] at h63;omega
   rw [run_append_grow (P:=P) w t ty e i z ht hi hz ⟨g,0,none⟩ n cap xs hown.1 holds a m c news hl hnews (by omega) (by omega) (growslice_fits (by omega) hbytes)] at hr;cases hr
   intro g' hg';cases hg'
   exact .inr (Nat.le_refl _)
theorem ze0 {P:Program} (w:World) {ops:Array Oper} {rest:List Oper} {o:Oper} {a:Act} {Q:Exit→Act→World→Prop} (hgd:o.guard=none) (s x:Operand) (t:TypeId)
  (ho:o.op= .call { callee:= .builtin .append,args:=#[s,x],argTypes:=#[t,t] })
  (base:Nat) (e:TypeId) (i:TypeInfo) (z:Value) (size bytes:Nat) (ht:P.underlying t=some (.slice e)) (hi:P.info? e=some i) (hz:i.zero=some z)
  (hsize:i.size=size) (hby:i.bytes=bytes) (hzs:z.cells.size=size) (hsz:0<size)
  (v:Value) (n:Nat) (xs:List Value) (hs:a.eval s=v) (hown:w.ownsRow base e size v n xs)
  (ad:Addr) (m c:Nat) (news:List Value) (hx:a.eval x= .slice (some ad) m c) (hl:news.length=m*size) (hnews:∀j u,news[j]? =some u→w.cell? (ad.add j)=some u) (h1:∀u∈news,u.oneCell'=true)
  (h63:n+m≤maxLen) (hbytes:(n+m)*bytes≤140737488355328) (hbase:base≤w.heap.size)
  (h:∀v' w',w'.ownsRow base e size v' (n+m) (xs++news)→w.grownBy w' v.ownBlock→(∀g,v'.ownBlock=some g→v.ownBlock=some g∨w.heap.size≤g)→wpList P ops Q rest (a.put o.dst v') w'):wpList P ops Q (o::rest) a w:=
 wpList_plain hgd fun _ hK=>by
  obtain ⟨v',w',hr,h2,h3,h4⟩:=zu4 (P:=P) w base t o.type e i z size bytes ht hi hz hsize hby hzs hsz v n xs hown ad m c news hl hnews h1 h63 hbytes hbase;unfold Oper.wp execOp;simp only [ho,resolve,invoke,builtin,Sem.run_bind,Sem.run_pure,Result.andThen_ok,List.map_toArray,List.map_cons,List.map_nil,hs,hx,hr];exact hK _ _ (h v' w' h2 h3 h4)
end Mem
end
section
open Go.RowKit
namespace WNode
set_option maxRecDepth 100000 in
theorem is_any (a b c : Int) (w : World) :
    Calls Tryz.prog 95 #[.int .i64 a, .int .i64 b, .int .i64 c] w fun e w' => e = .returned (.bool (decide (b ≤ a) && decide (a ≤ c))) ∧ w' = w := by
  by_cases h1 : b ≤ a
  · go_enter Tryz.func95, Tryz.ntmps95
    go_wp2
    go_ret
    exact ⟨za2 (by simp [h1]), rfl⟩
  · go_enter Tryz.func95, Tryz.ntmps95
    go_wp2
    go_ret
    exact ⟨za2 (by simp [show ¬ b ≤ a by omega]), rfl⟩
set_option maxRecDepth 100000 in
theorem time_any (a : Int) (w : World) :
    Calls Tryz.prog 208 #[.int .i64 a] w fun e w' => e = .returned (.bool (decide (0 ≤ a) && decide (a ≤ 1000000))) ∧ w' = w := by
  go_enter Tryz.func208, Tryz.ntmps208
  go_wp2_with fail
  refine (is_any a 0 1000000 _).mono ?_
  rintro e w1 ⟨rfl, rfl⟩
  go_wp2
  go_ret
  exact ⟨rfl, rfl⟩
set_option maxRecDepth 100000 in
set_option maxHeartbeats 2000000 in
theorem ye5 (n : Pl.Nd) (w : World) (hp : n.path.size ≤ 1048576) (hd : n.data.size ≤ 1048576) :
    Calls Tryz.prog 182 #[n.val] w fun e w' => e = .returned (.bool (Pl.zb7 n)) ∧ Below w.heap.size w w' := by
  have E0 := hide (@Pl.yg4 n)
  have E1 := hide (@Pl.node_path n)
  have E2 := hide (@Pl.node_data n)
  have E3 := hide (@Pl.node_time n)
  have E4 := hide (@Pl.node_mark n)
  have E5 := hide (@Pl.node_kind n)
  have EK : Hid (Pl.zj7 n = (if n.kind = 0 then decide (n.data.size = 0) && decide (n.time = 0) && decide (1 ≤ n.mark) else if n.kind = 1 then decide (n.data.size = 0) else if n.kind = 2 then decide (n.mark = 0) else false)) := rfl
  generalize Pl.zb7 n = R at E0 E1 E2 E3 E4 E5 ⊢
  generalize Pl.zj7 n = R2 at E5 EK
  obtain ⟨p, k, d, t, m⟩ := n
  simp only at hp hd E0 E1 E2 E3 E4 E5 EK
  simp only [Pl.Nd.val]
  have hr := hide (fun W => zf3.zz7 p W hp)
  generalize Pl.za0 p = r at hr E1 E5
  by_cases h0 : p.size = 0
  · have E := hide (za E0 h0)
    have t0 : p.toList.isEmpty = true := by rw [Pl.zc0]; simpa [Pl.zh0] using h0
    clear E0 E1 E2 E3 E4 E5 EK
    go_enter Tryz.func182, Tryz.ntmps182
    go_wp2
    go_ret
    exact ⟨za2 (za E).symm, (Below.refl _ _).alloc (Nat.le_refl _) _⟩
  have t0 : p.toList.isEmpty = false := by rw [Pl.zc0]; simpa [Pl.zh0] using h0
  cases r
  · have E := hide (za E1 rfl)
    clear E0 E1 E2 E3 E4 E5 EK
    go_enter Tryz.func182, Tryz.ntmps182
    have hv := Mem.zg9 w [.string p, .int .i64 k, .string d, .int .i64 t, .int .i64 m] 60
    have hb0 : Below w.heap.size w (w.alloc (.cells #[.string p, .int .i64 k, .string d, .int .i64 t, .int .i64 m] 60)) := (Below.refl _ _).alloc (Nat.le_refl _) _
    go_wp2_with fail
    refine (za hr _).mono ?_
    rintro e w1 ⟨rfl, b1⟩
    have b2 := hb0.trans (b1.mono hb0.size)
    clear hv hb0 b1
    go_wp2
    go_ret
    exact ⟨za2 (za E).symm, b2⟩
  have E := hide (fun h2 h3 h4 => za E5 h0 rfl h2 h3 h4)
  clear E0 E1 E5
  have LEN : Hid (d.size = 0 ↔ d.toList.isEmpty = true) := by show _ ↔ _; rw [Pl.zc0]; simp [Pl.zh0]
  go_enter Tryz.func182, Tryz.ntmps182
  have hv := Mem.zg9 w [.string p, .int .i64 k, .string d, .int .i64 t, .int .i64 m] 60
  have hb0 : Below w.heap.size w (w.alloc (.cells #[.string p, .int .i64 k, .string d, .int .i64 t, .int .i64 m] 60)) := (Below.refl _ _).alloc (Nat.le_refl _) _
  go_wp2_with fail
  refine (za hr _).mono ?_
  rintro e w1 ⟨rfl, b1⟩
  have hb := hb0.trans (b1.mono hb0.size)
  obtain ⟨-, hc⟩ := Mem.zm5 hv b1
  have c0 := hc 0 _ rfl
  have c1 := hc 1 _ rfl
  have c2 := hc 2 _ rfl
  have c3 := hc 3 _ rfl
  have c4 := hc 4 _ rfl
  clear hv hb0 b1 hc hr
  by_cases h2 : 60 < d.size
  · have F := hide (za E2 h2)
    clear E E2 E3 E4 EK
    go_wp2
    go_ret
    exact ⟨za2 (za F).symm, hb⟩
  have t2 : decide ((60 : Int) < (d.size : Int)) = false := by simp; omega
  by_cases h3 : 0 ≤ t ∧ t ≤ 1000000
  rotate_left
  · have F := hide (za E3 h3)
    have V : (decide (0 ≤ t) && decide (t ≤ 1000000)) = false := by simpa using h3
    clear E E2 E3 E4 EK
    go_wp2_with fail
    refine (time_any t _).mono ?_
    rintro e w2 ⟨rfl, hw⟩
    rw [V]
    obtain rfl := hw.symm
    go_wp2
    go_ret
    exact ⟨za2 (za F).symm, hb⟩
  have V : (decide (0 ≤ t) && decide (t ≤ 1000000)) = true := by simpa using h3
  go_wp2_with fail
  refine (time_any t _).mono ?_
  rintro e w2 ⟨rfl, hw⟩
  rw [V]
  obtain rfl := hw.symm
  clear V hw
  by_cases h4 : 0 ≤ m ∧ m ≤ 8
  rotate_left
  · have F := hide (za E4 h4)
    have V : (decide (0 ≤ m) && decide (m ≤ 8)) = false := by simpa using h4
    clear E E2 E3 E4 EK
    go_wp2_with fail
    refine (is_any m 0 8 _).mono ?_
    rintro e w2 ⟨rfl, hw⟩
    rw [V]
    obtain rfl := hw.symm
    go_wp2
    go_ret
    exact ⟨za2 (za F).symm, hb⟩
  have V : (decide (0 ≤ m) && decide (m ≤ 8)) = true := by simpa using h4
  go_wp2_with fail
  refine (is_any m 0 8 _).mono ?_
  rintro e w2 ⟨rfl, hw⟩
  rw [V]
  obtain rfl := hw.symm
  clear V hw
  have F := hide ((za E (by omega) h3 h4).trans (za EK))
  clear E E2 E3 E4 EK
  by_cases hd0 : d.size = 0
  · have u0 : d.toList.isEmpty = true := (za LEN).1 hd0
    clear LEN
    by_cases k0 : k = 0
    · subst k0
      by_cases m1 : 1 ≤ m
      · go_wp2
        go_ret
        exact ⟨za2 (by rw [za F]; simp [hd0, m1]; rfl), hb⟩
      · go_wp2
        go_ret
        exact ⟨za2 (by rw [za F]; simp [hd0, m1]), hb⟩
    by_cases k1 : k = 1
    · subst k1
      go_wp2
      go_ret
      exact ⟨za2 (by rw [za F]; simp [hd0]), hb⟩
    by_cases k2 : k = 2
    · subst k2
      go_wp2
      go_ret
      exact ⟨za2 (by rw [za F]; simp; rfl), hb⟩
    · have e0 : (k == 0) = false := by simpa using k0
      have e1 : (k == 1) = false := by simpa using k1
      have e2 : (k == 2) = false := by simpa using k2
      go_wp2
      go_ret
      exact ⟨za2 (by rw [za F]; simp [k0, k1, k2]), hb⟩
  · have u0 : d.toList.isEmpty = false := by
      cases hx : d.toList.isEmpty
      · rfl
      · exact absurd ((za LEN).2 hx) hd0
    clear LEN
    by_cases k2 : k = 2
    · subst k2
      go_wp2
      go_ret
      exact ⟨za2 (by rw [za F]; simp; rfl), hb⟩
    · have e2 : (k == 2) = false := by simpa using k2
      go_wp2
      go_ret
      exact ⟨za2 (by rw [za F]; simp [hd0, k2]), hb⟩
set_option maxRecDepth 100000 in
theorem kind_any (n : Pl.Nd) (w : World) (hd : n.data.size ≤ 1048576) :
    Calls Tryz.prog 217 #[n.val] w fun e w' => e = .returned (.bool (Pl.zj7 n)) ∧ Below w.heap.size w w' := by
  have EK : Hid (Pl.zj7 n = (if n.kind = 0 then decide (n.data.size = 0) && decide (n.time = 0) && decide (1 ≤ n.mark) else if n.kind = 1 then decide (n.data.size = 0) else if n.kind = 2 then decide (n.mark = 0) else false)) := rfl
  generalize Pl.zj7 n = R at EK ⊢
  obtain ⟨p, k, d, t, m⟩ := n
  simp only at hd EK
  simp only [Pl.Nd.val]
  have LEN : Hid (d.size = 0 ↔ d.toList.isEmpty = true) := by show _ ↔ _; rw [Pl.zc0]; simp [Pl.zh0]
  have hb : ∀ o, Below w.heap.size w (w.alloc o) := fun o => (Below.refl _ _).alloc (Nat.le_refl _) o
  have HB := hide hb
  clear hb
  by_cases hd0 : d.size = 0
  · have u0 : d.toList.isEmpty = true := (za LEN).1 hd0
    clear LEN
    by_cases k0 : k = 0
    · subst k0
      by_cases t1 : t = 0
      · subst t1
        by_cases m1 : 1 ≤ m
        · have m2 : 0 < m := by omega
          go_enter Tryz.func217, Tryz.ntmps217
          go_wp2
          go_ret
          exact ⟨za2 (by rw [za EK]; simp [hd0, m1]), za HB _⟩
        · have m2 : ¬ 0 < m := by omega
          go_enter Tryz.func217, Tryz.ntmps217
          go_wp2
          go_ret
          exact ⟨za2 (by rw [za EK]; simp [hd0, m1]), za HB _⟩
      · have t2 : (t == 0) = false := by simpa using t1
        go_enter Tryz.func217, Tryz.ntmps217
        go_wp2
        go_ret
        exact ⟨za2 (by rw [za EK]; simp [hd0, t1]), za HB _⟩
    by_cases k1 : k = 1
    · subst k1
      go_enter Tryz.func217, Tryz.ntmps217
      go_wp2
      go_ret
      exact ⟨za2 (by rw [za EK]; simp [hd0]), za HB _⟩
    by_cases k2 : k = 2
    · subst k2
      go_enter Tryz.func217, Tryz.ntmps217
      go_wp2
      go_ret
      exact ⟨za2 (by rw [za EK]; simp; rfl), za HB _⟩
    · have e0 : (k == 0) = false := by simpa using k0
      have e1 : (k == 1) = false := by simpa using k1
      have e2 : (k == 2) = false := by simpa using k2
      go_enter Tryz.func217, Tryz.ntmps217
      go_wp2
      go_ret
      exact ⟨za2 (by rw [za EK]; simp [k0, k1, k2]), za HB _⟩
  · have u0 : d.toList.isEmpty = false := by
      cases hx : d.toList.isEmpty
      · rfl
      · exact absurd ((za LEN).2 hx) hd0
    clear LEN
    by_cases k0 : k = 0
    · subst k0
      go_enter Tryz.func217, Tryz.ntmps217
      go_wp2
      go_ret
      exact ⟨za2 (by rw [za EK]; simp [hd0]), za HB _⟩
    by_cases k1 : k = 1
    · subst k1
      go_enter Tryz.func217, Tryz.ntmps217
      go_wp2
      go_ret
      exact ⟨za2 (by rw [za EK]; simp [hd0]), za HB _⟩
    by_cases k2 : k = 2
    · subst k2
      go_enter Tryz.func217, Tryz.ntmps217
      go_wp2
      go_ret
      exact ⟨za2 (by rw [za EK]; simp; rfl), za HB _⟩
    · have e0 : (k == 0) = false := by simpa using k0
      have e1 : (k == 1) = false := by simpa using k1
      have e2 : (k == 2) = false := by simpa using k2
      go_enter Tryz.func217, Tryz.ntmps217
      go_wp2
      go_ret
      exact ⟨za2 (by rw [za EK]; simp [k0, k1, k2]), za HB _⟩
set_option maxRecDepth 100000 in
set_option maxHeartbeats 2000000 in
theorem content_any (n : Pl.Nd) (w : World) (hd : n.data.size ≤ 1048576) :
    Calls Tryz.prog 210 #[n.val] w fun e w' => e = .returned (.bool (Pl.zp5 n)) ∧ Below w.heap.size w w' := by
  have E2 := hide (@Pl.cont_data n)
  have E3 := hide (@Pl.cont_time n)
  have E4 := hide (@Pl.cont_mark n)
  have E5 := hide (@Pl.cont_kind n)
  have EK := hide (fun W => kind_any n W hd)
  generalize Pl.zp5 n = R at E2 E3 E4 E5 ⊢
  generalize Pl.zj7 n = R2 at E5 EK
  obtain ⟨p, k, d, t, m⟩ := n
  simp only at hd E2 E3 E4 E5
  simp only [Pl.Nd.val] at EK ⊢
  have hb : Below w.heap.size w (w.alloc (.cells #[.string p, .int .i64 k, .string d, .int .i64 t, .int .i64 m] 60)) := (Below.refl _ _).alloc (Nat.le_refl _) _
  by_cases h2 : 60 < d.size
  · have F := hide (za E2 h2)
    clear E2 E3 E4 E5 EK
    go_enter Tryz.func210, Tryz.ntmps210
    go_wp2
    go_ret
    exact ⟨za2 (za F).symm, hb⟩
  have t2 : decide ((60 : Int) < (d.size : Int)) = false := by simp; omega
  by_cases h3 : 0 ≤ t ∧ t ≤ 1000000
  rotate_left
  · have F := hide (za E3 h3)
    clear E2 E3 E4 E5 EK
    by_cases h5 : t < 0
    · go_enter Tryz.func210, Tryz.ntmps210
      go_wp2
      go_ret
      exact ⟨za2 (za F).symm, hb⟩
    · have h6 : ¬ t ≤ 1000000 := by omega
      go_enter Tryz.func210, Tryz.ntmps210
      go_wp2
      go_ret
      exact ⟨za2 (za F).symm, hb⟩
  obtain ⟨h5, h6⟩ := h3
  by_cases h4 : 0 ≤ m ∧ m ≤ 8
  rotate_left
  · have F := hide (za E4 h4)
    clear E2 E3 E4 E5 EK
    by_cases h7 : m < 0
    · go_enter Tryz.func210, Tryz.ntmps210
      go_wp2
      go_ret
      exact ⟨za2 (za F).symm, hb⟩
    · have h8 : ¬ m ≤ 8 := by omega
      go_enter Tryz.func210, Tryz.ntmps210
      go_wp2
      go_ret
      exact ⟨za2 (za F).symm, hb⟩
  obtain ⟨h7, h8⟩ := h4
  have F := hide (za E5 (by omega) ⟨h5, h6⟩ ⟨h7, h8⟩)
  clear E2 E3 E4 E5
  go_enter Tryz.func210, Tryz.ntmps210
  go_wp2_with fail
  refine (za EK _).mono ?_
  rintro e w2 ⟨rfl, b2⟩
  have b3 := hb.trans (b2.mono hb.size)
  clear hb b2
  go_wp2
  go_ret
  exact ⟨za2 (za F).symm, b3⟩
set_option maxRecDepth 100000 in
set_option maxHeartbeats 2000000 in
theorem yd0 (n : Pl.Nd) (w : World) (hp : n.path.size ≤ 1048576) (hd : n.data.size ≤ 1048576) :
    Calls Tryz.prog 185 #[n.val] w fun e w' => e = .returned (.bool (Pl.zb7 n)) ∧ Below w.heap.size w w' := by
  have E0 := hide (@Pl.yg4 n)
  have E1 := hide (@Pl.node_path n)
  have E5 := hide (@Pl.node_cont n)
  have EK := hide (fun W => content_any n W hd)
  generalize Pl.zb7 n = R at E0 E1 E5 ⊢
  generalize Pl.zp5 n = R2 at E5 EK
  obtain ⟨p, k, d, t, m⟩ := n
  simp only at hp hd E0 E1 E5
  simp only [Pl.Nd.val] at EK ⊢
  have hr := hide (fun W => zl5.zi4 p W hp)
  generalize Pl.za0 p = r at hr E1 E5
  have hv := Mem.zg9 w [.string p, .int .i64 k, .string d, .int .i64 t, .int .i64 m] 60
  have hb0 : Below w.heap.size w (w.alloc (.cells #[.string p, .int .i64 k, .string d, .int .i64 t, .int .i64 m] 60)) := (Below.refl _ _).alloc (Nat.le_refl _) _
  by_cases h0 : p.size = 0
  · have E := hide (za E0 h0)
    have t0 : p.toList.isEmpty = true := by rw [Pl.zc0]; simpa [Pl.zh0] using h0
    clear E0 E1 E5 EK hv
    go_enter Tryz.func185, Tryz.ntmps185
    go_wp2
    go_ret
    exact ⟨za2 (za E).symm, hb0⟩
  have t0 : p.toList.isEmpty = false := by rw [Pl.zc0]; simpa [Pl.zh0] using h0
  cases r
  · have E := hide (za E1 rfl)
    clear E0 E1 E5 EK
    go_enter Tryz.func185, Tryz.ntmps185
    go_wp2_with fail
    refine (za hr _).mono ?_
    rintro e w1 ⟨rfl, b1⟩
    have b2 := hb0.trans (b1.mono hb0.size)
    clear hv hb0 b1
    go_wp2
    go_ret
    exact ⟨za2 (za E).symm, b2⟩
  have F := hide (za E5 h0 rfl)
  clear E0 E1 E5
  go_enter Tryz.func185, Tryz.ntmps185
  go_wp2_with fail
  refine (za hr _).mono ?_
  rintro e w1 ⟨rfl, b1⟩
  have hb := hb0.trans (b1.mono hb0.size)
  obtain ⟨-, hc⟩ := Mem.zm5 hv b1
  have c0 := hc 0 _ rfl
  have c1 := hc 1 _ rfl
  have c2 := hc 2 _ rfl
  have c3 := hc 3 _ rfl
  have c4 := hc 4 _ rfl
  clear hv hb0 b1 hc hr
  go_wp2_with fail
  refine (za EK _).mono ?_
  rintro e w2 ⟨rfl, b2⟩
  have b3 := hb.trans (b2.mono hb.size)
  clear hb b2
  go_wp2
  go_ret
  exact ⟨za2 (za F).symm, b3⟩
end WNode
end
section
open Go.RowKit
namespace WJoin
theorem Tryz.one8 (w:World):(sizeOf 5).run Tryz.prog w= .ok 1 w:=by kernel_rfl
theorem Tryz.info8j:(Tryz.prog.info? 5).map (fun i=>(i.zero,i.size,i.bytes))=some (some (.int .u8 0),1,1):=by kernel_rfl

set_option maxRecDepth 100000 in
set_option maxHeartbeats 400000 in
theorem any (b o cap:Nat) (ts:List ByteArray) (w:World) (hn:ts.length≤1000000) (ht:Pl.tot ts≤1000000000)
  (hcell:∀j t,ts[j]? =some t→w.cell? ⟨b,o+j,none⟩=some (.string t)) (hb:b<w.heap.size):
  Calls Tryz.prog 76 #[.slice (some ⟨b,o,none⟩) ts.length cap] w fun e w'=>e= .returned (.string ⟨(Pl.cat ts).toArray⟩)∧Below w.heap.size w w':=by
 have HC:=hide hcell;clear hcell;go_enter Tryz.func76,Tryz.ntmps76
 go_wp2
 go_loop [3,12] (fun n i=>∃k:Nat,k≤ts.length∧i= .int .i64 k∧n= .int .i64 (Pl.tot (ts.take k):Nat)) (fun _ i=>ts.length - (intOf i).toNat)
 case atStart=>exact ⟨0,Nat.zero_le _,rfl,rfl⟩
 case round=>
  obtain ⟨k,hk,rfl,rfl⟩:=hrel;by_cases hlt:k<ts.length
  ·obtain ⟨t,hkt⟩:∃t,ts[k]? =some t:=⟨_,List.getElem?_eq_getElem hlt⟩;have hc:=za HC k t hkt;have H1:=hide (Pl.tot_snoc ts k t hkt);have h1:=Pl.tot_le ts (k+1);have h2:Pl.tot (ts.take k)+t.size≤1000000000:=by have :=za H1;omega
   clear hkt h1;go_wp2
   go_round
   case rel=>exact ⟨k+1,by omega,by go_num,by rw [za H1];go_num⟩
   case measure=>simp [intOf];omega
  ·have HE:Hid (Pl.tot (ts.take k)=Pl.tot ts):=by
    show _=_;rw [List.take_of_length_le (by omega)]
   have hmk:=Mem.make_bytes (P:=Tryz.prog) Tryz.underlying191 Tryz.info8j (Pl.tot ts) ht w;rw [HE.out];go_wp2
   go_loopw [7,25] (fun p i wr=>∃ (k:Nat) (cur:Array Value),k≤ts.length∧i= .int .i64 k∧p= .int .i64 (Pl.tot (ts.take k):Nat)∧wr.heap[w.heap.size]? =some (.cells cur 5 (0,0))∧cur.size=Pl.tot ts∧
     Hid (cur.toList.take (Pl.tot (ts.take k))=(Pl.cat (ts.take k)).map Pl.ze8)∧Below w.heap.size w wr) (fun _ i _=>ts.length - (intOf i).toNat)
   case atStart=>exact ⟨0,Mem.zeros (Pl.tot ts),Nat.zero_le _,rfl,rfl,heap_alloc_new w _,Mem.zeros_size _,rfl,(Below.refl _ _).alloc (Nat.le_refl _) _⟩
   case round=>
    obtain ⟨k,cur,hk,rfl,rfl,hrow,hcs,HP,hbel⟩:=hrel;by_cases hlt:k<ts.length
    ·obtain ⟨t,hkt⟩:∃t,ts[k]? =some t:=⟨_,List.getElem?_eq_getElem hlt⟩;have hc:wr.cell? ⟨b,o+k,none⟩=some (.string t):=(hbel.cell (p:=⟨b,o+k,none⟩) hb).trans (za HC k t hkt);have H1:=hide (Pl.tot_snoc ts k t hkt);have h1:=Pl.tot_le ts (k+1);have h2:Pl.tot (ts.take k)+t.size≤Pl.tot ts:=by have :=za H1;omega
     have HS:=hide (Pl.part_step hkt HP.out);obtain ⟨D,w2,hsl,hcp,hrow2,hbel2⟩:=Mem.copy_on (P:=Tryz.prog) (sT:=9) Tryz.underlying191 Tryz.one8 wr w.heap.size (Pl.tot (ts.take k)) (Pl.tot ts) cur hrow hcs t h2;have HROW2:=hide hrow2;have HB2:=hide (hbel.trans hbel2)
     have hsz:Hid ((cur.toList.take (Pl.tot (ts.take k))++t.data.toList.map Pl.ze8++cur.toList.drop (Pl.tot (ts.take k)+t.size)).toArray.size=Pl.tot ts):=by
      show _=_;have :t.data.size=t.size:=rfl;simp [this]
      omega
     clear hkt h1 hrow hrow2 hbel2 hbel;go_wp2
     go_roundw
     case rel=>exact ⟨k+1,_,by omega,by go_num,by rw [za H1];go_num,HROW2,hsz,HS,HB2⟩
     case measure=>simp [intOf];omega
    ·have HE2:Hid (Pl.cat (ts.take k)=Pl.cat ts∧Pl.tot (ts.take k)=Pl.tot ts):=by
      show _∧_;rw [List.take_of_length_le (by omega)];exact ⟨rfl,rfl⟩
     have hp:cur.toList.take (Pl.tot ts)=(Pl.cat ts).map Pl.ze8:=by have :=HP.out;rwa [HE2.out.1,HE2.out.2] at this
     have hcv:=Mem.row_text (P:=Tryz.prog) (cap:=Pl.tot ts) Tryz.underlying191 Tryz.underlying5 Tryz.underlying9 (Pl.cat ts) (Pl.yc6 ts) hrow hp;clear hp hrow;go_wp2
     go_ret
     exact ⟨rfl,hbel⟩
end WJoin
end
section
open Go.RowKit
namespace Pl
def zc6 (ts:List ByteArray):Nat→List ByteArray
 |0=>[]
 |k+1=>zc6 ts k++(if k=0 then [] else [⟨#[47]⟩])++[ts.getD k ⟨#[]⟩]
theorem glueL_snoc (A:List (List UInt8)) (a:List UInt8):zf7 (A++[a])=zf7 A++(if A=[] then [] else [47])++a:=by
 by_cases h:A=[]
 ·subst h;rfl
 ·rw [zt2 h (by simp),if_neg h];simp [zf7]
theorem yi7 (A B:List ByteArray):cat (A++B)=cat A++cat B:=by simp [cat]
theorem parts_cat (ts:List ByteArray):∀k,k≤ts.length→cat (zc6 ts k)=zf7 ((ts.take k).map by_):=by
 intro k
 induction k with
 |zero=>intro _;rfl
 |succ k ih=>
  intro hk;have hlt:k<ts.length:=by omega
  rw [zc6,yi7,yi7,ih (by omega),List.take_add_one,List.getElem?_eq_getElem hlt,Option.toList_some,List.map_append,List.map_cons,List.map_nil,glueL_snoc,cat_one];have h1:ts.getD k ⟨#[]⟩=ts[k]:=by simp [List.getD_eq_getElem?_getD,List.getElem?_eq_getElem hlt]
  rw [h1]
  have h2:cat (if k=0 then [] else [(⟨#[47]⟩:ByteArray)])=if (ts.take k).map by_=[] then [] else [47]:=by
   by_cases h0:k=0
   ·subst h0;rfl
   ·rw [if_neg h0,if_neg (by simp;exact ⟨h0,by intro e;subst e;simp at hlt⟩)];rfl
  rw [h2];rfl
theorem parts_glue (ts:List ByteArray):(⟨(cat (zc6 ts ts.length)).toArray⟩:ByteArray)=glue ts:=by
 rw [parts_cat ts _ (Nat.le_refl _),List.take_length];rfl
theorem parts_tot (ts:List ByteArray):tot (zc6 ts ts.length)=(glue ts).size:=by
 rw [←yc6,parts_cat ts _ (Nat.le_refl _),List.take_length,←zp7,zd2]
theorem parts_length (ts:List ByteArray):∀k,(zc6 ts k).length≤2*k:=by
 intro k
 induction k with
 |zero=>simp [zc6]
 |succ k ih=>
  rw [zc6];by_cases h:k=0
  ·simp [h,zc6]
  ·simp [h];omega
theorem parts_first {ts:List ByteArray} {t:ByteArray} (ht:ts[0]? =some t):zc6 ts 1=zc6 ts 0++[t]:=by
 simp [zc6,List.getD_eq_getElem?_getD,ht]
theorem parts_next {ts:List ByteArray} {k:Nat} {t:ByteArray} (hk:k≠0) (ht:ts[k]? =some t):zc6 ts (k+1)=(zc6 ts k++[⟨#[47]⟩])++[t]:=by
 simp [zc6,List.getD_eq_getElem?_getD,ht,hk]
end Pl
namespace zr3
theorem make12 (w:World):(Instr.makeSlice 159 (.int .i64 0) (.int .i64 12)).run Tryz.prog w= .ok (.slice (some ⟨w.heap.size,0,none⟩) 0 12) (w.alloc (.cells (madeCells (Value.string ⟨#[]⟩).cells 12) 9)):=by
 obtain ⟨i0,h0,h1,h2,h3⟩:=info_parts WWords.infoS;have h:=run_make (P:=Tryz.prog) w 159 9 i0 (.string ⟨#[]⟩) Tryz.underlying159 h0 h1 .i64 .i64 0 12 (by omega) (by omega) (by rw [h3];omega) (by omega);rw [h];simp [h2]

set_option maxRecDepth 100000 in
set_option maxHeartbeats 400000 in
theorem any (v:Value) (ts:List ByteArray) (w:World) (hn:ts.length≤1000) (hg:(Pl.glue ts).size≤1000000) (hv:Mem.zi0 w v ts):
  Calls Tryz.prog 138 #[v] w fun e w'=>e= .returned (.string (Pl.glue ts))∧Below w.heap.size w w':=by
 obtain ⟨i0,hi,hz0,hz1,hz2⟩:=info_parts WWords.infoS;have hmk:=make12;have H0:Hid ((⟨(Pl.cat (Pl.zc6 ts ts.length)).toArray⟩:ByteArray)=Pl.glue ts):=Pl.parts_glue ts;have H1:Hid (Pl.tot (Pl.zc6 ts ts.length)≤1000000000):=by have :=Pl.parts_tot ts;show _≤_;omega
 by_cases hts:ts=[]
 ·subst hts
  have hv2:∃a cap,v= .slice a 0 cap:=by
   rcases hv with ⟨rfl,_⟩|⟨b,o,cap,rfl,_⟩
   ·exact ⟨_,_,rfl⟩
   ·exact ⟨_,_,rfl⟩
  obtain ⟨a,cap,rfl⟩:=hv2;go_enter Tryz.func138,Tryz.ntmps138
  go_wp2
  go_loop [3,9] (fun p i=>p= .slice (some ⟨w.heap.size,0,none⟩) 0 12∧i= .int .i64 0) (fun _ _=>0)
  case atStart=>exact ⟨rfl,rfl⟩
  case round=>
   obtain ⟨rfl,rfl⟩:=hrel;go_wp2_with fail
   refine (WJoin.any w.heap.size 0 12 [] _ (by simp) (by simp [Pl.tot]) (fun j t h=>by simp at h) (by simp)).mono ?_;rintro e w1 ⟨rfl,hb1⟩;go_wp2
   go_ret
   exact ⟨rfl,(bE0).trans (hb1.mono (by simp))⟩
 have hpos:0<ts.length:=List.length_pos_iff.2 hts
 have HNE:Hid (Pl.zc6 ts ts.length≠[]):=by
  intro h;obtain ⟨n,hn⟩:∃n,ts.length=n+1:=⟨ts.length - 1,by omega⟩;rw [hn,Pl.zc6] at h;simp at h
 rcases hv with ⟨rfl,rfl⟩|⟨b,o,cap,rfl,hb,hcell⟩
 ·exact absurd rfl hts
 ·have HC:=hide hcell;clear hcell;go_enter Tryz.func138,Tryz.ntmps138
  go_wp2
  go_loopw [3,9] (fun p i wr=>∃k:Nat,k≤ts.length∧i= .int .i64 (k:Int)∧wr.ownsRow w.heap.size 9 1 p (Pl.zc6 ts k).length ((Pl.zc6 ts k).map Value.string)∧Below w.heap.size w wr) (fun _ i _=>ts.length - (intOf i).toNat)
  case atStart=>exact ⟨0,Nat.zero_le _,rfl,World.ownsRow_made _ _ 12 (Nat.le_refl _) (by unfold maxLen;omega) (size_madeCells _ _),bE0⟩
  case round=>
   obtain ⟨k,hk,rfl,hown,hbel⟩:=hrel;have hb1:=hbel.size;have hpl:=Pl.parts_length ts k;by_cases hlt:k<ts.length
   ·obtain ⟨t,hkt⟩:∃t,ts[k]? =some t:=⟨_,List.getElem?_eq_getElem hlt⟩;have hc:wr.cell? ⟨b,o+k,none⟩=some (.string t):=(hbel.cell (p:=⟨b,o+k,none⟩) hb).trans (za HC k t hkt);by_cases h0:k=0
    ·have HS:Hid (Pl.zc6 ts (k+1)=Pl.zc6 ts k++[t]):=by subst h0;exact Pl.parts_first hkt
     have hp:¬ (0:Int)<(k:Int):=by omega
     clear hkt h0;go_wp2_with (at_builtin;refine wpList_append_own _ rfl _ _ 159 rfl w.heap.size 9 i0 (.string ⟨#[]⟩) 1 16 Tryz.underlying159 hi hz0 hz1 hz2 rfl (by decide) _ _ _ rfl (hown.alloc _) ⟨wr.heap.size,0,none⟩ 1 1 [.string t] rfl rfl (Mem.zi1 _ _ _) (Mem.one_str _) (by unfold maxLen;omega) (by omega) (by simp;omega) ?_)
     ·intro v' w2 hown' hgrow _;have hbel':=Mem.zh2 hbel (Nat.le_refl _) hown hgrow
      have hown2:Hid (w2.ownsRow w.heap.size 9 1 v' (Pl.zc6 ts (k+1)).length ((Pl.zc6 ts (k+1)).map Value.string)):=by
       show World.ownsRow _ _ _ _ _ _ _;rw [za HS];simpa using hown'
      clear hgrow hown hbel hown' hc;go_wp2
      go_roundw
      case rel=>exact ⟨k+1,by omega,by go_num,hown2,hbel'⟩
      case measure=>simp [intOf];omega
    ·have HS:=hide (Pl.parts_next h0 hkt);have hp:(0:Int)<(k:Int):=by omega
     clear hkt;go_wp2_with (at_builtin;refine wpList_append_own _ rfl _ _ 159 rfl w.heap.size 9 i0 (.string ⟨#[]⟩) 1 16 Tryz.underlying159 hi hz0 hz1 hz2 rfl (by decide) _ _ _ rfl (hown.alloc _) ⟨wr.heap.size,0,none⟩ 1 1 [.string ⟨#[47]⟩] rfl rfl (Mem.zi1 _ _ _) (Mem.one_str _) (by unfold maxLen;omega) (by omega) (by simp;omega) ?_)
     ·intro v1 w1 hown' hgrow _;have hbel':=Mem.zh2 hbel (Nat.le_refl _) hown hgrow;have hown1:w1.ownsRow w.heap.size 9 1 v1 (Pl.zc6 ts k++[(⟨#[47]⟩:ByteArray)]).length ((Pl.zc6 ts k++[(⟨#[47]⟩:ByteArray)]).map Value.string):=by simpa using hown'
      have hb2:=hbel'.size;have hl2:(Pl.zc6 ts k++[(⟨#[47]⟩:ByteArray)]).length≤2*k+1:=by simp;omega
      clear hgrow hown hbel hown' hc hpl;go_wp2_with (at_builtin;refine wpList_append_own _ rfl _ _ 159 rfl w.heap.size 9 i0 (.string ⟨#[]⟩) 1 16 Tryz.underlying159 hi hz0 hz1 hz2 rfl (by decide) _ _ _ rfl (hown1.alloc _) ⟨w1.heap.size,0,none⟩ 1 1 [.string t] rfl rfl (Mem.zi1 _ _ _) (Mem.one_str _) (by unfold maxLen;omega) (by omega) (by simp;omega) ?_)
      ·intro v' w2 hown' hgrow _;have hbel2:=Mem.zh2 hbel' (Nat.le_refl _) hown1 hgrow
       have hown2:Hid (w2.ownsRow w.heap.size 9 1 v' (Pl.zc6 ts (k+1)).length ((Pl.zc6 ts (k+1)).map Value.string)):=by
        show World.ownsRow _ _ _ _ _ _ _;rw [za HS];simpa using hown'
       clear hgrow hown1 hbel' hown';go_wp2
       go_roundw
       case rel=>exact ⟨k+1,by omega,by go_num,hown2,hbel2⟩
       case measure=>simp [intOf];omega
   ·obtain rfl:k=ts.length:=by omega
    rcases Mem.zg7 hown with ⟨rfl,hnil⟩|⟨g,o',cap',rfl,hgl,hcell'⟩
    ·exact absurd hnil HNE.out
    ·have HC':=hide hcell';clear hcell' hown;go_wp2_with fail
     refine (WJoin.any g o' cap' (Pl.zc6 ts ts.length) _ (by omega) H1.out HC'.out hgl).mono ?_;rintro e w1 ⟨rfl,hb1⟩;go_wp2
     go_ret
     exact ⟨by rw [H0.out];rfl,hbel.trans (hb1.mono (by omega))⟩
end zr3
end
section
open Go.RowKit
namespace zl5
set_option maxRecDepth 100000 in
set_option maxHeartbeats 4000000 in
theorem ye4 (s:ByteArray) (w:World) (hs:s.size≤1048576):
  Calls Tryz.prog 211 #[.string s] w fun e w'=>e= .returned (.string (Pl.glue (Pl.za8 s).dropLast))∧Below w.heap.size w w':=by
 have hn:=hide (yc2.any s w hs);have hL:=hide (Pl.zg s);generalize Pl.za0 s=r at hn;generalize Pl.za8 s=L at hn hL;go_enter Tryz.func211,Tryz.ntmps211
 go_wp2_with fail
 refine (za hn).mono ?_;rintro e w1 ⟨v,rfl,hown,hb⟩;clear hn
 rcases Mem.texts hown with ⟨rfl,rfl⟩|⟨g,cap,rfl,hcap,hm,hgb,hgl,hcell⟩
 ·clear hown;go_wp2_with fail
  refine (zr3.any _ [] _ (by simp) (by decide) (.inl ⟨rfl,rfl⟩)).mono ?_;rintro e w2 ⟨rfl,hb2⟩;have hb3:=hb.trans (hb2.mono hb.size);clear hb hb2;go_wp2
  go_ret
  exact ⟨rfl,hb3⟩
 ·clear hown;have hm2:=hm;have HC:=hide hcell;clear hcell;unfold maxLen at hm2;by_cases h0:L.length=0
  ·obtain rfl:L=[]:=List.eq_nil_of_length_eq_zero h0;have m0:max (-1:Int) 0=0:=by decide
   go_wp2_with fail
   refine (zr3.any _ [] _ (by simp) (by decide) (.inr ⟨g,0,cap,rfl,hgl,fun j t h=>by simp at h⟩)).mono ?_;rintro e w2 ⟨rfl,hb2⟩;have hb3:=hb.trans (hb2.mono hb.size);clear hb hb2;go_wp2
   go_ret
   exact ⟨rfl,hb3⟩
  ·have h1:(0:Int)≤(L.length:Int) - 1:=by omega
   have m1:max ((L.length:Int) - 1) 0=(L.length:Int) - 1:=by omega
   have h2:(L.length:Int) - 1≤(cap:Int):=by omega
   have E:=hide (Pl.drop_last L);go_wp2_with fail
   try rw [show (max ((L.length:Int) - 1) 0).toNat=L.length - 1 by omega]
   refine (zr3.any _ (L.take (L.length - 1)) _ ?_ (Pl.zx5 (Pl.zt8 (za hL).1 _) ?_) (Mem.take_texts hgl (za HC) _ (by omega))).mono ?_
   ·have :=(za hL).2;simp;omega
   ·have :=(za hL).2;simp;omega
   rintro e w2 ⟨rfl,hb2⟩;rw [za E];have hb3:=hb.trans (hb2.mono hb.size);clear hb hb2;go_wp2
   go_ret
   exact ⟨rfl,hb3⟩
end zl5
end
section
open Go.RowKit Go.Maps
namespace Pl
def parV (e2 e3:Value) (C:List Nd) (p:ByteArray):Value:=
 if (zc5 p).size=0 then .nilIface else match C.find? (fun m=>decide (m.path=zc5 p)) with |none=>e2|some m=>if m.kind=1 then .nilIface else e3
theorem par_ok {C:List Nd} {p:ByteArray} {u2 u3:TypeId} {x2 x3:Value} (hC:C.Pairwise (fun a b=>a.path≠b.path)):
  (parI C p=true∧parV (.iface u2 x2) (.iface u3 x3) C p= .nilIface)∨(parI C p=false∧∃u x,parV (.iface u2 x2) (.iface u3 x3) C p= .iface u x):=by
 unfold parV parI;by_cases h0:(zc5 p).size=0
 ·left;simp [h0]
 simp only [h0,decide_false,Bool.false_or,if_false];cases hf:C.find? (fun m=>decide (m.path=zc5 p)) with
 |none=>
  right
  refine ⟨?_,u2,x2,rfl⟩;rw [List.any_eq_false];intro m hm;have :=List.find?_eq_none.1 hf m hm;simp at this
  simp [this]
 |some m=>
  have h1:=List.mem_of_find?_eq_some hf;have h2:m.path=zc5 p:=by simpa using List.find?_some hf
  by_cases hk:m.kind=1
  ·left
   refine ⟨?_,by simp [hk]⟩;rw [List.any_eq_true];exact ⟨m,h1,by simp [h2,hk]⟩
  ·right
   refine ⟨?_,u3,x3,by simp [hk]⟩;rw [List.any_eq_false];intro x hx;simp only [Bool.and_eq_true,decide_eq_true_eq,not_and];intro hxp
   have :x=m:=by
    have hp:∀ {A:List Nd},A.Pairwise (fun a b=>a.path≠b.path)→∀ {a b:Nd},a∈A→b∈A→a.path=b.path→a=b:=by
     intro A hA
     induction hA with
     |nil=>intro a b ha;cases ha
     |cons hx' _ ih=>
      intro a b ha hb e
      rcases List.mem_cons.1 ha with e1|h1
      ·rcases List.mem_cons.1 hb with e2|h2
       ·rw [e1,e2]
       ·exact absurd (e1 ▸ e) (hx' _ h2)
      ·rcases List.mem_cons.1 hb with e2|h2
       ·exact absurd (e2 ▸ e).symm (hx' _ h1)
       ·exact ih h1 h2 e
    exact hp hC hx h1 (hxp.trans h2.symm)
   rw [this];exact hk
end Pl
namespace MapN
section
variable {P:Program} (w:World) {ops:Array Oper} {rest:List Oper} {o:Oper} {a:Act} {Q:Exit→Act→World→Prop}
theorem look_ok (hg:o.guard=none) (m x:Operand) (t:TypeId) (hop:o.op=Op.lookup t m x true)
  (k e:TypeId) (K:Keyed P k) (ht:P.underlying t=some (.map k e)) (hz:(zeroValue e).run P w= .ok (Pl.Nd.val ⟨⟨#[]⟩,0,⟨#[]⟩,0,0⟩) w) (b n:Nat) (D:DataW Unit)
  (hm:a.eval m= .map (some b)) (hown:w.ownsMap P k elem b n D) (kv:Value) (kl:Lit) (hx:a.eval x=kv) (hkey:keyOf P k kv=some kl) (nd:Pl.Nd) (hat:D.atKey kl (dat ⟨⟨#[]⟩,0,⟨#[]⟩,0,0⟩)=dat nd) (r:Bool) (hr:Maps.has D kl=r)
  (hK:wpList P ops Q rest (a.put o.dst (.tuple #[.agg #[.string nd.path, .int .i64 nd.kind, .string nd.data, .int .i64 nd.time, .int .i64 nd.mark], .bool r])) w):
  wpList P ops Q (o::rest) a w:=
 wpList_lookup_own_ok w hg m x t hop k e K ht elem hz _ [] (zr7 _) b n D hm hown kv kl hx hkey (fun v ps hv=>by
  obtain ⟨n1,rfl,hd⟩:=elem_inv hv;obtain rfl:=zr6 (hat.symm.trans hd);rw [hr]
  exact hK)
end
end MapN
namespace zq
structure Errs (w:World) (u1 u2 u3:TypeId) (x1 x2 x3:Value):Prop where
 c1:w.cell? ⟨1,0,none⟩=some (.iface u1 x1)
 c2:w.cell? ⟨3,0,none⟩=some (.iface u2 x2)
 c3:w.cell? ⟨4,0,none⟩=some (.iface u3 x3)
theorem Errs.call {w w':World} {u1 u2 u3:TypeId} {x1 x2 x3:Value} (h:Errs w u1 u2 u3 x1 x2 x3) (b:Below w.heap.size w w'):Errs w' u1 u2 u3 x1 x2 x3:=
 ⟨(b.cell (p:=⟨_,0,none⟩) (World.block_lt_of_cell? w ⟨_,0,none⟩ h.c1)).trans h.c1,(b.cell (p:=⟨_,0,none⟩) (World.block_lt_of_cell? w ⟨_,0,none⟩ h.c2)).trans h.c2,(b.cell (p:=⟨_,0,none⟩) (World.block_lt_of_cell? w ⟨_,0,none⟩ h.c3)).trans h.c3⟩
theorem zf1 {w w':World} {B n:Nat} {D:DataW Unit} (h:w.ownsMap Tryz.prog 9 MapN.elem B n D) (b:Below w.heap.size w w'):w'.ownsMap Tryz.prog 9 MapN.elem B n D:=
 h.kept (row:=none) ⟨b.os,b.tape,b.output,b.size,fun k hk _=>b.block k hk⟩ (by simp)
set_option maxRecDepth 100000 in
set_option maxHeartbeats 400000 in
theorem fault_any (B N:Nat) (C:List Pl.Nd) (p:ByteArray) (w:World) (u1 u2 u3:TypeId) (x1 x2 x3:Value) (hE:Errs w u1 u2 u3 x1 x2 x3) (hown:w.ownsMap Tryz.prog 9 MapN.elem B N (MapN.mapOf C)) (hC:C.Pairwise (fun a b=>a.path≠b.path)) (hp:p.size≤1048576):
  Calls Tryz.prog 186 #[.map (some B), .string p] w fun e w'=>e= .returned (Pl.parV (.iface u2 x2) (.iface u3 x3) C p)∧Below w.heap.size w w':=by
 have hpa:=hide (zl5.ye4 p w hp)
 have hz:=hide (show (Pl.zc5 p).size≤1048576 from by
  have h1:=Pl.zg p;have h2:=Pl.zz8 (Pl.za8 p).dropLast (fun t ht=>(Pl.zr4 (h1.1 t (List.dropLast_subset _ ht))).2.2.2);rw [List.length_dropLast] at h2;show (Pl.glue (Pl.za8 p).dropLast).size≤1048576
  omega)
 change Hid (Calls Tryz.prog _ _ w fun e w'=>e= .returned (.string (Pl.zc5 p))∧_) at hpa
 have E1:Hid ((Pl.zc5 p).size=0→Pl.parV (.iface u2 x2) (.iface u3 x3) C p= .nilIface):=fun h=>by simp [Pl.parV,h]
 have E2:Hid ((Pl.zc5 p).size≠0→C.find? (fun m=>decide (m.path=Pl.zc5 p))=none→Pl.parV (.iface u2 x2) (.iface u3 x3) C p= .iface u2 x2):=fun h hf=>by simp [Pl.parV,h,hf]
 have E3:Hid ((Pl.zc5 p).size≠0→∀m,C.find? (fun m=>decide (m.path=Pl.zc5 p))=some m→Pl.parV (.iface u2 x2) (.iface u3 x3) C p=if m.kind=1 then .nilIface else .iface u3 x3):=fun h m hf=>by simp [Pl.parV,h,hf]
 generalize Pl.parV (.iface u2 x2) (.iface u3 x3) C p=R at E1 E2 E3 ⊢;generalize Pl.zc5 p=q at hpa hz E1 E2 E3;have HE:=hide hE;have HM:=hide hown;clear hE hown;go_enter Tryz.func186,Tryz.ntmps186
 go_wp2_with fail
 refine (za hpa).mono ?_;rintro e w1 ⟨rfl,b1⟩;have hE1:=(za HE).call b1;have hM1:=hide (zf1 (za HM) b1);have k2:∀o,(w1.alloc o).cell? ⟨3,0,none⟩=some (.iface u2 x2):=fun o=>(World.cell?_alloc_some _ _ _ (by rw [hE1.c2];rfl)).trans hE1.c2;have k3:∀o,(w1.alloc o).cell? ⟨4,0,none⟩=some (.iface u3 x3):=fun o=>(World.cell?_alloc_some _ _ _ (by rw [hE1.c3];rfl)).trans hE1.c3;clear HE HM hpa hE1;by_cases h0:q.size=0
 ·have t0:q.toList.isEmpty=true:=by rw [Pl.zc0];simpa [Pl.zh0] using h0
  have E:=hide (za E1 h0);go_wp2
  go_ret
  exact ⟨by rw [za E];rfl,b1⟩
 have t0:q.toList.isEmpty=false:=by rw [Pl.zc0];simpa [Pl.zh0] using h0
 have hkey:=MapN.zm4 (p:=q) (by have :=za hz;unfold maxLen;omega);cases hf:C.find? (fun m=>decide (m.path=q)) with
 |none=>
  have E:=hide (za E2 h0 hf);have hmiss:∀n∈C,n.path≠q:=fun n hn=>by simpa using List.find?_eq_none.1 hf n hn
  have ha:=hide (MapN.has_no hmiss);have ha2:=hide (Maps.atKey_of_not_has (za ha) (MapN.dat ⟨⟨#[]⟩,0,⟨#[]⟩,0,0⟩));clear E1 E2 E3 hf hmiss;go_wp2_with (at_lookup;refine MapN.look_ok _ rfl _ _ 108 rfl 9 60 MapN.law Tryz.underlying108 (MapN.za3 _) B N (MapN.mapOf C) rfl (za hM1) _ _ rfl hkey ⟨⟨#[]⟩,0,⟨#[]⟩,0,0⟩ (za ha2) false (za ha) ?_)
  go_ret
  exact ⟨by rw [za E];rfl,b1.alloc b1.size _⟩
 |some m=>
  have E:=hide (za E3 h0 m hf);have hm1:=List.mem_of_find?_eq_some hf;have hm2:m.path=q:=by simpa using List.find?_some hf
  obtain ⟨y1,y2⟩:=MapN.zw hC hm1;rw [hm2] at y1 y2;have ha:=hide y1;have ha2:=hide (y2 (MapN.dat ⟨⟨#[]⟩,0,⟨#[]⟩,0,0⟩));clear E1 E2 E3 hf y1 y2 hm1 hm2;by_cases hk:m.kind=1
  ·have E':=hide (show R= .nilIface by rw [za E,if_pos hk]);have t1:(m.kind==1)=true:=by simpa using hk
   clear E hk;go_wp2_with (at_lookup;refine MapN.look_ok _ rfl _ _ 108 rfl 9 60 MapN.law Tryz.underlying108 (MapN.za3 _) B N (MapN.mapOf C) rfl (za hM1) _ _ rfl hkey m (za ha2) true (za ha) ?_)
   go_ret
   exact ⟨by rw [za E'];rfl,b1.alloc b1.size _⟩
  ·have E':=hide (show R= .iface u3 x3 by rw [za E,if_neg hk]);have t1:(m.kind==1)=false:=by simpa using hk
   clear E hk;go_wp2_with (at_lookup;refine MapN.look_ok _ rfl _ _ 108 rfl 9 60 MapN.law Tryz.underlying108 (MapN.za3 _) B N (MapN.mapOf C) rfl (za hM1) _ _ rfl hkey m (za ha2) true (za ha) ?_)
   go_ret
   exact ⟨by rw [za E'];rfl,b1.alloc b1.size _⟩
end zq
end
section
open Go.RowKit Go.Maps
namespace Pl
structure Inv (C:List Nd) (lp:ByteArray):Prop where
 right:za0 lp=true
 rise:C.Pairwise (fun a b=>za4 (names a.path) (names b.path)=true)
 last:∀a∈C,a.path=lp∨za4 (names a.path) (names lp)=true
theorem inv_start:Inv [] ⟨#[]⟩:=⟨(zh7 rfl).1,List.Pairwise.nil,fun a ha=>by cases ha⟩
theorem inv_apart {C:List Nd} {lp:ByteArray} (h:Inv C lp):C.Pairwise (fun a b=>a.path≠b.path):=
 h.rise.imp (fun {a b} hab e=>by rw [e,zk8] at hab;cases hab)
theorem inv_step {C:List Nd} {lp:ByteArray} {n:Nd} (h:Inv C lp) (hn:zb7 n=true) (hl:ltP lp n.path=true):Inv (C++[n]) n.path:=by
 have hr:=(zj3 hn).1;rw [zf8 h.right hr] at hl
 have hall:∀a∈C,za4 (names a.path) (names n.path)=true:=fun a ha=>by
  rcases h.last a ha with e|e
  ·rw [e];exact hl
  ·exact zj2 _ _ _ e hl
 refine ⟨hr,?_,fun a ha=>?_⟩
 ·rw [List.pairwise_append];exact ⟨h.rise,List.pairwise_singleton _ _,fun a ha b hb=>by simp at hb;subst hb;exact hall a ha⟩
 ·rcases List.mem_append.1 ha with ha|ha
  ·exact .inr (hall a ha)
  ·simp at ha;subst ha;exact .inl rfl
theorem goI_step (L:List Nd) {n:Nd} {k:Nat} (h:L[k]? =some n) (C:List Nd) (lp:ByteArray):goI C lp (L.drop k)=(zb7 n&&ltP lp n.path&&parI C n.path&&goI (C++[n]) n.path (L.drop (k+1))):=by
 have h1:=(List.getElem?_eq_some_iff.1 h);rw [List.drop_eq_getElem_cons h1.1,h1.2,goI]
theorem take_snoc' (L:List Nd) {n:Nd} {k:Nat} (h:L[k]? =some n):L.take (k+1)=L.take k++[n]:=by
 have h1:=(List.getElem?_eq_some_iff.1 h);rw [List.take_succ_eq_append_getElem h1.1,h1.2]
end Pl
namespace zq
set_option maxRecDepth 100000 in
set_option maxHeartbeats 1000000 in
theorem nodes_any (a:Option Addr) (cap:Nat) (L:List Pl.Nd) (w:World) (hl:L.length≤1048576) (hv:Mem.zb1 w a L) (hok:∀n∈L,n.path.size≤1048576∧n.data.size≤1048576)
  (r1 r2 r3:TypeId) (x1 x2 x3:Value) (hE:Errs w r1 r2 r3 x1 x2 x3):
  Calls Tryz.prog 150 #[.agg #[.slice a L.length cap]] w fun e w'=>((Pl.zc7 L=true∧∃B,e= .returned (.tuple #[.map (some B), .nilIface])∧w.heap.size≤B∧w'.ownsMap Tryz.prog 9 MapN.elem B 40 (MapN.mapOf L))∨
   (Pl.zc7 L=false∧e= .returned (.tuple #[.map none, .iface r1 x1])))∧Below w.heap.size w w':=by
 have b0:Below w.heap.size w (w.alloc (.cells #[.slice a L.length cap] 103)):=bE0;have HV:=hide hv;have HO:=hide hok;have HE:=hide hE;have hvar:=hide (Mem.zg9 w [.slice a L.length cap] 103);have hmm:=@run_makeMap Tryz.prog;have k1:=(hE.call b0).c1;clear hv hok hE;by_cases h40:40<L.length
 ·have F:=hide (show Pl.zc7 L=false by simp [Pl.zc7];omega);go_enter Tryz.func150,Tryz.ntmps150
  go_wp2
  go_region
  go_wp2
  go_ret2
  exact ⟨.inr ⟨za F,rfl⟩,Mem.below_drewN b0 1⟩
 have h41:Pl.zc7 L=Pl.goI [] ⟨#[]⟩ L:=by rw [Pl.zc7,show decide (L.length≤40)=true by simp;omega];rfl
 rw [h41];clear h41;generalize hR:Pl.goI [] ⟨#[]⟩ L=R;have HR:=hide hR;clear hR;go_enter Tryz.func150,Tryz.ntmps150
 go_wp2
 go_loopw [5,17] (fun v i wr=>∃ (k:Nat) (lp:ByteArray),k≤L.length∧i= .int .i64 (k:Int)∧v= .string lp∧lp.size≤200∧Below w.heap.size w wr∧Hid (wr.ownsMap Tryz.prog 9 MapN.elem (w.heap.size+1) k (MapN.mapOf (L.take k)))∧Hid (Pl.Inv (L.take k) lp)∧Hid (R=Pl.goI (L.take k) lp (L.drop k))) (fun _ i _=>L.length - (intOf i).toNat)
 case atStart=>
  refine ⟨0,⟨#[]⟩,Nat.zero_le _,rfl,rfl,Nat.zero_le _,?_,?_,Pl.inv_start,(za HR).symm⟩
  ·exact b0.alloc (by simp) _
  ·have h:=World.ownsMap_made (w.alloc (.cells #[.slice a L.length cap] 103)) Tryz.prog 9 MapN.elem;rw [show (w.alloc (.cells #[.slice a L.length cap] 103)).heap.size=w.heap.size+1 by simp] at h;exact h
 case round=>
  obtain ⟨k,lp,hk,rfl,rfl,hlp,hbel,HM,HI,HR2⟩:=hrel;by_cases hlt:k<L.length
  ·obtain ⟨n,hn⟩:∃n,L[k]? =some n:=⟨_,List.getElem?_eq_getElem hlt⟩;obtain ⟨b,o,rfl,hb,q0,q1,q2,q3,q4⟩:=(Mem.za9 (za HV) hbel) k n hn;have y1:(k:Int)<(L.length:Int):=by omega
   have y3:(0:Int)≤(k:Int):=by omega
   have hBl:=(za HM).lt;have hsn:=za HO n (List.mem_of_getElem? hn);have hnr:=hide (fun W=>WNode.yd0 n W hsn.1 hsn.2);have hls:=hide (fun W=>WLess.ye1 lp n.path W (by omega) hsn.1)
   change Hid (∀W,Calls Tryz.prog _ _ W fun e w'=>e= .returned (.bool (Pl.ltP lp n.path))∧_) at hls
   have hpf:=hide (fun W hE hown hC=>fault_any (w.heap.size+1) k (L.take k) n.path W r1 r2 r3 x1 x2 x3 hE hown hC hsn.1);have UG:=hide (Pl.goI_step L (n:=n) (k:=k) hn (L.take k) lp);have HN:=hide hn;have hkey:=MapN.zm4 (p:=n.path) (by have :=hsn.1;unfold maxLen;omega);have zn:=Mem.zg9 wr [.string n.path, .int .i64 n.kind, .string n.data, .int .i64 n.time, .int .i64 n.mark] 60;have bw1:Below wr.heap.size wr (wr.alloc (.cells #[.string n.path, .int .i64 n.kind, .string n.data, .int .i64 n.time, .int .i64 n.mark] 60)):=bE0;have bw2:=hbel.trans (bw1.mono hbel.size);have HM1:=hide (zf1 (za HM) bw1);clear hn HM;simp only [Pl.Nd.val] at hnr;go_wp2_with fail
   refine (za hnr _).mono ?_;rintro e wA ⟨rfl,bA⟩;have znA:=Mem.zm5 zn bA;have bwA:=bw2.trans (bA.mono bw2.size);have HMA:=hide (zf1 (za HM1) bA);have kA:=((za HE).call bwA).c1;clear zn bw1 bw2 bA HM1 q0 q1 q2 q3 q4 hnr;have c0:=znA.2 0 _ rfl;cases hnb:Pl.zb7 n
   ·have F:=hide (show R=false by rw [za HR2,za UG,hnb];rfl);clear hnb;go_wp2
    go_region
    go_wp2
    go_ret2
    exact ⟨.inr ⟨za F,rfl⟩,Mem.below_drewN bwA 1⟩
   have HNB:=hide hnb;clear hnb;go_wp2_with fail
   refine (za hls _).mono ?_;rintro e wB ⟨rfl,bB⟩;have znB:=Mem.zm5 znA bB;have bwB:=bwA.trans (bB.mono bwA.size);have HMB:=hide (zf1 (za HMA) bB);have kB:=((za HE).call bwB).c1;clear znA bwA bB HMA c0 kA hls;have c0:=znB.2 0 _ rfl;cases hlb:Pl.ltP lp n.path
   ·have F:=hide (show R=false by rw [za HR2,za UG,za HNB,hlb];rfl);clear hlb;go_wp2
    go_region
    go_wp2
    go_ret2
    exact ⟨.inr ⟨za F,rfl⟩,Mem.below_drewN bwB 1⟩
   have HLB:=hide hlb;clear hlb;go_wp2_with fail
   refine (za hpf _ ((za HE).call bwB) (za HMB) (Pl.inv_apart (za HI))).mono ?_;rintro e wC ⟨rfl,bC⟩;have znC:=Mem.zm5 znB bC;have bwC:=bwB.trans (bC.mono bwB.size);have HMC:=hide (zf1 (za HMB) bC);have kC:=((za HE).call bwC).c1;clear znB bwB bC HMB c0 kB hpf
   rcases Pl.par_ok (p:=n.path) (u2:=r2) (u3:=r3) (x2:=x2) (x3:=x3) (Pl.inv_apart (za HI)) with ⟨hp1,hp2⟩|⟨hp1,uu,xx,hp2⟩
   rotate_left
   ·have F:=hide (show R=false by rw [za HR2,za UG,za HNB,za HLB,hp1];rfl);rw [hp2];clear hp1 hp2;go_wp2
    go_region
    go_wp2
    go_ret2
    exact ⟨.inr ⟨za F,rfl⟩,Mem.below_drewN bwC 1⟩
   have HR3:=hide (show R=Pl.goI (L.take k++[n]) n.path (L.drop (k+1)) by rw [za HR2,za UG,za HNB,za HLB,hp1];rfl);rw [hp2];clear hp1 hp2;have c0:=znC.2 0 _ rfl;have c1:=znC.2 1 _ rfl;have c2:=znC.2 2 _ rfl;have c3:=znC.2 3 _ rfl;have c4:=znC.2 4 _ rfl;have hzl:=znC.1;have hne:some wr.heap.size≠some (w.heap.size+1):=fun e=>by have :=Option.some.inj e;omega
   go_wp2_with (first |(at_mapUpdate;refine wpList_mapUpdate_own _ rfl _ _ _ 108 rfl 9 60 MapN.law Tryz.underlying108 _ (w.heap.size+1) k _ rfl (za HMC) (by unfold maxLen;omega) _ _ _ rfl rfl hkey _ [] (MapN.zr7 n) ?_;intro wD hownD hgrowD;have cD:=hgrowD.cell c0 hne;have HOD:=hide hownD;have bwD:=bwC.grown hgrowD bwC.size (fun k hk=>by cases hk;omega);clear hownD hgrowD)|fail)
   have HI2:=hide (Pl.inv_step (za HI) (za HNB) (za HLB));have hnl:=Pl.zg5 (Pl.zj3 (za HNB)).1;have HT:=hide (Pl.take_snoc' L (za HN));go_wp2
   go_roundw
   case rel=>
    refine ⟨k+1,n.path,by omega,by go_num,rfl,hnl,bwD,?_,?_,?_⟩
    ·rw [za HT,MapN.yd9];exact HOD
    ·rw [za HT];exact HI2
    ·rw [za HT];exact HR3
   case measure=>simp [intOf];omega
  ·obtain rfl:k=L.length:=by omega
   have F:=hide (show R=true by rw [za HR2,List.drop_length];rfl);rw [List.take_length] at HM;clear HR2;go_wp2
   go_ret2
   exact ⟨.inl ⟨za F,w.heap.size+1,rfl,by omega,(za HM).mono (by omega)⟩,hbel⟩
end zq
end
end Go.Proofs.YtkighhofjmginaaGreatDoor
