/- Several texts of one claim in one file: WNode, WNodesJ, WItemX, WTakeX. -/
import Derived.Test.YtgdjjncmocppeaaGreatDoorG31
import Derived.Test.YtgdjjncmocppeaaGreatDoorWLess
namespace Go.Proofs.YtgdjjncmocppeaaGreatDoor
section
open Go.RowKit
namespace WNode
set_option maxRecDepth 100000 in
theorem is_any (a b c : Int) (w : World) :
    Calls Tryz.prog 68 #[.int .i64 a, .int .i64 b, .int .i64 c] w fun e w' => e = .returned (.bool (decide (b ≤ a) && decide (a ≤ c))) ∧ w' = w := by
  by_cases h1 : b ≤ a
  · go_enter Tryz.func68, Tryz.ntmps68
    go_wp2
    go_ret
    exact ⟨za1 (by simp [h1]), rfl⟩
  · go_enter Tryz.func68, Tryz.ntmps68
    go_wp2
    go_ret
    exact ⟨za1 (by simp [show ¬ b ≤ a by omega]), rfl⟩
set_option maxRecDepth 100000 in
theorem time_any (a : Int) (w : World) :
    Calls Tryz.prog 162 #[.int .i64 a] w fun e w' => e = .returned (.bool (decide (0 ≤ a) && decide (a ≤ 1000000))) ∧ w' = w := by
  go_enter Tryz.func162, Tryz.ntmps162
  go_wp2_with fail
  refine (is_any a 0 1000000 _).mono ?_
  rintro e w1 ⟨rfl, rfl⟩
  go_wp2
  go_ret
  exact ⟨rfl, rfl⟩
set_option maxRecDepth 100000 in
set_option maxHeartbeats 2000000 in
theorem zz3 (n : Pl.Nd) (w : World) (hp : n.path.size ≤ 1048576) (hd : n.data.size ≤ 1048576) :
    Calls Tryz.prog 156 #[n.val] w fun e w' => e = .returned (.bool (Pl.zb1 n)) ∧ Below w.heap.size w w' := by
  have E0 := hide (@Pl.yb1 n)
  have E1 := hide (@Pl.node_path n)
  have E2 := hide (@Pl.node_data n)
  have E3 := hide (@Pl.node_time n)
  have E4 := hide (@Pl.node_mark n)
  have E5 := hide (@Pl.node_kind n)
  have EK : Hid (Pl.zh8 n = (if n.kind = 0 then decide (n.data.size = 0) && decide (n.time = 0) && decide (1 ≤ n.mark) else if n.kind = 1 then decide (n.data.size = 0) else if n.kind = 2 then decide (n.mark = 0) else false)) := rfl
  generalize Pl.zb1 n = R at E0 E1 E2 E3 E4 E5 ⊢
  generalize Pl.zh8 n = R2 at E5 EK
  obtain ⟨p, k, d, t, m⟩ := n
  simp only at hp hd E0 E1 E2 E3 E4 E5 EK
  simp only [Pl.Nd.val]
  have hr := hide (fun W => ze2.zv3 p W hp)
  generalize Pl.za0 p = r at hr E1 E5
  by_cases h0 : p.size = 0
  · have E := hide (za E0 h0)
    have t0 : p.toList.isEmpty = true := by rw [Pl.zb3]; simpa [Pl.ze8] using h0
    clear E0 E1 E2 E3 E4 E5 EK
    go_enter Tryz.func156, Tryz.ntmps156
    go_wp2
    go_ret
    exact ⟨za1 (za E).symm, (Below.refl _ _).alloc (Nat.le_refl _) _⟩
  have t0 : p.toList.isEmpty = false := by rw [Pl.zb3]; simpa [Pl.ze8] using h0
  cases r
  · have E := hide (za E1 rfl)
    clear E0 E1 E2 E3 E4 E5 EK
    go_enter Tryz.func156, Tryz.ntmps156
    have hv := Mem.zi5 w [.string p, .int .i64 k, .string d, .int .i64 t, .int .i64 m] 56
    have hb0 : Below w.heap.size w (w.alloc (.cells #[.string p, .int .i64 k, .string d, .int .i64 t, .int .i64 m] 56)) := (Below.refl _ _).alloc (Nat.le_refl _) _
    go_wp2_with fail
    refine (za hr _).mono ?_
    rintro e w1 ⟨rfl, b1⟩
    have b2 := hb0.trans (b1.mono hb0.size)
    clear hv hb0 b1
    go_wp2
    go_ret
    exact ⟨za1 (za E).symm, b2⟩
  have E := hide (fun h2 h3 h4 => za E5 h0 rfl h2 h3 h4)
  clear E0 E1 E5
  have LEN : Hid (d.size = 0 ↔ d.toList.isEmpty = true) := by show _ ↔ _; rw [Pl.zb3]; simp [Pl.ze8]
  go_enter Tryz.func156, Tryz.ntmps156
  have hv := Mem.zi5 w [.string p, .int .i64 k, .string d, .int .i64 t, .int .i64 m] 56
  have hb0 : Below w.heap.size w (w.alloc (.cells #[.string p, .int .i64 k, .string d, .int .i64 t, .int .i64 m] 56)) := (Below.refl _ _).alloc (Nat.le_refl _) _
  go_wp2_with fail
  refine (za hr _).mono ?_
  rintro e w1 ⟨rfl, b1⟩
  have hb := hb0.trans (b1.mono hb0.size)
  obtain ⟨-, hc⟩ := Mem.zq3 hv b1
  have c0 := hc 0 _ rfl
  have c1 := hc 1 _ rfl
  have c2 := hc 2 _ rfl
  have c3 := hc 3 _ rfl
  have c4 := hc 4 _ rfl
  clear hv hb0 b1 hc hr
  by_cases h2 : 60 < d.size
  · have F := hide (za E2 h2)
    clear E E2 E3 E4 EK
    go_wp2
    go_ret
    exact ⟨za1 (za F).symm, hb⟩
  have t2 : decide ((60 : Int) < (d.size : Int)) = false := by simp; omega
  by_cases h3 : 0 ≤ t ∧ t ≤ 1000000
  rotate_left
  · have F := hide (za E3 h3)
    have V : (decide (0 ≤ t) && decide (t ≤ 1000000)) = false := by simpa using h3
    clear E E2 E3 E4 EK
    go_wp2_with fail
    refine (time_any t _).mono ?_
    rintro e w2 ⟨rfl, hw⟩
    rw [V]
    obtain rfl := hw.symm
    go_wp2
    go_ret
    exact ⟨za1 (za F).symm, hb⟩
  have V : (decide (0 ≤ t) && decide (t ≤ 1000000)) = true := by simpa using h3
  go_wp2_with fail
  refine (time_any t _).mono ?_
  rintro e w2 ⟨rfl, hw⟩
  rw [V]
  obtain rfl := hw.symm
  clear V hw
  by_cases h4 : 0 ≤ m ∧ m ≤ 8
  rotate_left
  · have F := hide (za E4 h4)
    have V : (decide (0 ≤ m) && decide (m ≤ 8)) = false := by simpa using h4
    clear E E2 E3 E4 EK
    go_wp2_with fail
    refine (is_any m 0 8 _).mono ?_
    rintro e w2 ⟨rfl, hw⟩
    rw [V]
    obtain rfl := hw.symm
    go_wp2
    go_ret
    exact ⟨za1 (za F).symm, hb⟩
  have V : (decide (0 ≤ m) && decide (m ≤ 8)) = true := by simpa using h4
  go_wp2_with fail
  refine (is_any m 0 8 _).mono ?_
  rintro e w2 ⟨rfl, hw⟩
  rw [V]
  obtain rfl := hw.symm
  clear V hw
  have F := hide ((za E (by omega) h3 h4).trans (za EK))
  clear E E2 E3 E4 EK
  by_cases hd0 : d.size = 0
  · have u0 : d.toList.isEmpty = true := (za LEN).1 hd0
    clear LEN
    by_cases k0 : k = 0
    · subst k0
      by_cases m1 : 1 ≤ m
      · go_wp2
        go_ret
        exact ⟨za1 (by rw [za F]; simp [hd0, m1]; rfl), hb⟩
      · go_wp2
        go_ret
        exact ⟨za1 (by rw [za F]; simp [hd0, m1]), hb⟩
    by_cases k1 : k = 1
    · subst k1
      go_wp2
      go_ret
      exact ⟨za1 (by rw [za F]; simp [hd0]), hb⟩
    by_cases k2 : k = 2
    · subst k2
      go_wp2
      go_ret
      exact ⟨za1 (by rw [za F]; simp; rfl), hb⟩
    · have e0 : (k == 0) = false := by simpa using k0
      have e1 : (k == 1) = false := by simpa using k1
      have e2 : (k == 2) = false := by simpa using k2
      go_wp2
      go_ret
      exact ⟨za1 (by rw [za F]; simp [k0, k1, k2]), hb⟩
  · have u0 : d.toList.isEmpty = false := by
      cases hx : d.toList.isEmpty
      · rfl
      · exact absurd ((za LEN).2 hx) hd0
    clear LEN
    by_cases k2 : k = 2
    · subst k2
      go_wp2
      go_ret
      exact ⟨za1 (by rw [za F]; simp; rfl), hb⟩
    · have e2 : (k == 2) = false := by simpa using k2
      go_wp2
      go_ret
      exact ⟨za1 (by rw [za F]; simp [hd0, k2]), hb⟩
set_option maxRecDepth 100000 in
theorem kind_any (n : Pl.Nd) (w : World) (hd : n.data.size ≤ 1048576) :
    Calls Tryz.prog 168 #[n.val] w fun e w' => e = .returned (.bool (Pl.zh8 n)) ∧ Below w.heap.size w w' := by
  have EK : Hid (Pl.zh8 n = (if n.kind = 0 then decide (n.data.size = 0) && decide (n.time = 0) && decide (1 ≤ n.mark) else if n.kind = 1 then decide (n.data.size = 0) else if n.kind = 2 then decide (n.mark = 0) else false)) := rfl
  generalize Pl.zh8 n = R at EK ⊢
  obtain ⟨p, k, d, t, m⟩ := n
  simp only at hd EK
  simp only [Pl.Nd.val]
  have LEN : Hid (d.size = 0 ↔ d.toList.isEmpty = true) := by show _ ↔ _; rw [Pl.zb3]; simp [Pl.ze8]
  have hb : ∀ o, Below w.heap.size w (w.alloc o) := fun o => (Below.refl _ _).alloc (Nat.le_refl _) o
  have HB := hide hb
  clear hb
  by_cases hd0 : d.size = 0
  · have u0 : d.toList.isEmpty = true := (za LEN).1 hd0
    clear LEN
    by_cases k0 : k = 0
    · subst k0
      by_cases t1 : t = 0
      · subst t1
        by_cases m1 : 1 ≤ m
        · have m2 : 0 < m := by omega
          go_enter Tryz.func168, Tryz.ntmps168
          go_wp2
          go_ret
          exact ⟨za1 (by rw [za EK]; simp [hd0, m1]), za HB _⟩
        · have m2 : ¬ 0 < m := by omega
          go_enter Tryz.func168, Tryz.ntmps168
          go_wp2
          go_ret
          exact ⟨za1 (by rw [za EK]; simp [hd0, m1]), za HB _⟩
      · have t2 : (t == 0) = false := by simpa using t1
        go_enter Tryz.func168, Tryz.ntmps168
        go_wp2
        go_ret
        exact ⟨za1 (by rw [za EK]; simp [hd0, t1]), za HB _⟩
    by_cases k1 : k = 1
    · subst k1
      go_enter Tryz.func168, Tryz.ntmps168
      go_wp2
      go_ret
      exact ⟨za1 (by rw [za EK]; simp [hd0]), za HB _⟩
    by_cases k2 : k = 2
    · subst k2
      go_enter Tryz.func168, Tryz.ntmps168
      go_wp2
      go_ret
      exact ⟨za1 (by rw [za EK]; simp; rfl), za HB _⟩
    · have e0 : (k == 0) = false := by simpa using k0
      have e1 : (k == 1) = false := by simpa using k1
      have e2 : (k == 2) = false := by simpa using k2
      go_enter Tryz.func168, Tryz.ntmps168
      go_wp2
      go_ret
      exact ⟨za1 (by rw [za EK]; simp [k0, k1, k2]), za HB _⟩
  · have u0 : d.toList.isEmpty = false := by
      cases hx : d.toList.isEmpty
      · rfl
      · exact absurd ((za LEN).2 hx) hd0
    clear LEN
    by_cases k0 : k = 0
    · subst k0
      go_enter Tryz.func168, Tryz.ntmps168
      go_wp2
      go_ret
      exact ⟨za1 (by rw [za EK]; simp [hd0]), za HB _⟩
    by_cases k1 : k = 1
    · subst k1
      go_enter Tryz.func168, Tryz.ntmps168
      go_wp2
      go_ret
      exact ⟨za1 (by rw [za EK]; simp [hd0]), za HB _⟩
    by_cases k2 : k = 2
    · subst k2
      go_enter Tryz.func168, Tryz.ntmps168
      go_wp2
      go_ret
      exact ⟨za1 (by rw [za EK]; simp; rfl), za HB _⟩
    · have e0 : (k == 0) = false := by simpa using k0
      have e1 : (k == 1) = false := by simpa using k1
      have e2 : (k == 2) = false := by simpa using k2
      go_enter Tryz.func168, Tryz.ntmps168
      go_wp2
      go_ret
      exact ⟨za1 (by rw [za EK]; simp [k0, k1, k2]), za HB _⟩
set_option maxRecDepth 100000 in
set_option maxHeartbeats 2000000 in
theorem content_any (n : Pl.Nd) (w : World) (hd : n.data.size ≤ 1048576) :
    Calls Tryz.prog 166 #[n.val] w fun e w' => e = .returned (.bool (Pl.zn1 n)) ∧ Below w.heap.size w w' := by
  have E2 := hide (@Pl.cont_data n)
  have E3 := hide (@Pl.cont_time n)
  have E4 := hide (@Pl.cont_mark n)
  have E5 := hide (@Pl.cont_kind n)
  have EK := hide (fun W => kind_any n W hd)
  generalize Pl.zn1 n = R at E2 E3 E4 E5 ⊢
  generalize Pl.zh8 n = R2 at E5 EK
  obtain ⟨p, k, d, t, m⟩ := n
  simp only at hd E2 E3 E4 E5
  simp only [Pl.Nd.val] at EK ⊢
  have hb : Below w.heap.size w (w.alloc (.cells #[.string p, .int .i64 k, .string d, .int .i64 t, .int .i64 m] 56)) := (Below.refl _ _).alloc (Nat.le_refl _) _
  by_cases h2 : 60 < d.size
  · have F := hide (za E2 h2)
    clear E2 E3 E4 E5 EK
    go_enter Tryz.func166, Tryz.ntmps166
    go_wp2
    go_ret
    exact ⟨za1 (za F).symm, hb⟩
  have t2 : decide ((60 : Int) < (d.size : Int)) = false := by simp; omega
  by_cases h3 : 0 ≤ t ∧ t ≤ 1000000
  rotate_left
  · have F := hide (za E3 h3)
    clear E2 E3 E4 E5 EK
    by_cases h5 : t < 0
    · go_enter Tryz.func166, Tryz.ntmps166
      go_wp2
      go_ret
      exact ⟨za1 (za F).symm, hb⟩
    · have h6 : ¬ t ≤ 1000000 := by omega
      go_enter Tryz.func166, Tryz.ntmps166
      go_wp2
      go_ret
      exact ⟨za1 (za F).symm, hb⟩
  obtain ⟨h5, h6⟩ := h3
  by_cases h4 : 0 ≤ m ∧ m ≤ 8
  rotate_left
  · have F := hide (za E4 h4)
    clear E2 E3 E4 E5 EK
    by_cases h7 : m < 0
    · go_enter Tryz.func166, Tryz.ntmps166
      go_wp2
      go_ret
      exact ⟨za1 (za F).symm, hb⟩
    · have h8 : ¬ m ≤ 8 := by omega
      go_enter Tryz.func166, Tryz.ntmps166
      go_wp2
      go_ret
      exact ⟨za1 (za F).symm, hb⟩
  obtain ⟨h7, h8⟩ := h4
  have F := hide (za E5 (by omega) ⟨h5, h6⟩ ⟨h7, h8⟩)
  clear E2 E3 E4 E5
  go_enter Tryz.func166, Tryz.ntmps166
  go_wp2_with fail
  refine (za EK _).mono ?_
  rintro e w2 ⟨rfl, b2⟩
  have b3 := hb.trans (b2.mono hb.size)
  clear hb b2
  go_wp2
  go_ret
  exact ⟨za1 (za F).symm, b3⟩
set_option maxRecDepth 100000 in
set_option maxHeartbeats 2000000 in
theorem zy (n : Pl.Nd) (w : World) (hp : n.path.size ≤ 1048576) (hd : n.data.size ≤ 1048576) :
    Calls Tryz.prog 164 #[n.val] w fun e w' => e = .returned (.bool (Pl.zb1 n)) ∧ Below w.heap.size w w' := by
  have E0 := hide (@Pl.yb1 n)
  have E1 := hide (@Pl.node_path n)
  have E5 := hide (@Pl.node_cont n)
  have EK := hide (fun W => content_any n W hd)
  generalize Pl.zb1 n = R at E0 E1 E5 ⊢
  generalize Pl.zn1 n = R2 at E5 EK
  obtain ⟨p, k, d, t, m⟩ := n
  simp only at hp hd E0 E1 E5
  simp only [Pl.Nd.val] at EK ⊢
  have hr := hide (fun W => zk2.zg7 p W hp)
  generalize Pl.za0 p = r at hr E1 E5
  have hv := Mem.zi5 w [.string p, .int .i64 k, .string d, .int .i64 t, .int .i64 m] 56
  have hb0 : Below w.heap.size w (w.alloc (.cells #[.string p, .int .i64 k, .string d, .int .i64 t, .int .i64 m] 56)) := (Below.refl _ _).alloc (Nat.le_refl _) _
  by_cases h0 : p.size = 0
  · have E := hide (za E0 h0)
    have t0 : p.toList.isEmpty = true := by rw [Pl.zb3]; simpa [Pl.ze8] using h0
    clear E0 E1 E5 EK hv
    go_enter Tryz.func164, Tryz.ntmps164
    go_wp2
    go_ret
    exact ⟨za1 (za E).symm, hb0⟩
  have t0 : p.toList.isEmpty = false := by rw [Pl.zb3]; simpa [Pl.ze8] using h0
  cases r
  · have E := hide (za E1 rfl)
    clear E0 E1 E5 EK
    go_enter Tryz.func164, Tryz.ntmps164
    go_wp2_with fail
    refine (za hr _).mono ?_
    rintro e w1 ⟨rfl, b1⟩
    have b2 := hb0.trans (b1.mono hb0.size)
    clear hv hb0 b1
    go_wp2
    go_ret
    exact ⟨za1 (za E).symm, b2⟩
  have F := hide (za E5 h0 rfl)
  clear E0 E1 E5
  go_enter Tryz.func164, Tryz.ntmps164
  go_wp2_with fail
  refine (za hr _).mono ?_
  rintro e w1 ⟨rfl, b1⟩
  have hb := hb0.trans (b1.mono hb0.size)
  obtain ⟨-, hc⟩ := Mem.zq3 hv b1
  have c0 := hc 0 _ rfl
  have c1 := hc 1 _ rfl
  have c2 := hc 2 _ rfl
  have c3 := hc 3 _ rfl
  have c4 := hc 4 _ rfl
  clear hv hb0 b1 hc hr
  go_wp2_with fail
  refine (za EK _).mono ?_
  rintro e w2 ⟨rfl, b2⟩
  have b3 := hb.trans (b2.mono hb.size)
  clear hb b2
  go_wp2
  go_ret
  exact ⟨za1 (za F).symm, b3⟩
end WNode
end
section
open Go.RowKit Go.Maps
namespace Pl
structure Inv (C:List Nd) (lp:ByteArray):Prop where
 right:za0 lp=true
 rise:C.Pairwise (fun a b=>za5 (names a.path) (names b.path)=true)
 last:∀a∈C,a.path=lp∨za5 (names a.path) (names lp)=true
theorem inv_start:Inv [] ⟨#[]⟩:=⟨(zh9 rfl).1,List.Pairwise.nil,fun a ha=>by cases ha⟩
theorem inv_apart {C:List Nd} {lp:ByteArray} (h:Inv C lp):C.Pairwise (fun a b=>a.path≠b.path):=
 h.rise.imp (fun {a b} hab e=>by rw [e,zo6] at hab;cases hab)
theorem inv_step {C:List Nd} {lp:ByteArray} {n:Nd} (h:Inv C lp) (hn:zb1 n=true) (hl:ltP lp n.path=true):Inv (C++[n]) n.path:=by
 have hr:=(zn5 hn).1;rw [zm6 h.right hr] at hl
 have hall:∀a∈C,za5 (names a.path) (names n.path)=true:=fun a ha=>by
  rcases h.last a ha with e|e
  ·rw [e];exact hl
  ·exact zk7 _ _ _ e hl
 refine ⟨hr,?_,fun a ha=>?_⟩
 ·rw [List.pairwise_append];exact ⟨h.rise,List.pairwise_singleton _ _,fun a ha b hb=>by simp at hb;subst hb;exact hall a ha⟩
 ·rcases List.mem_append.1 ha with ha|ha
  ·exact .inr (hall a ha)
  ·simp at ha;subst ha;exact .inl rfl
theorem goI_step (L:List Nd) {n:Nd} {k:Nat} (h:L[k]? =some n) (C:List Nd) (lp:ByteArray):goI C lp (L.drop k)=(zb1 n&&ltP lp n.path&&parI C n.path&&goI (C++[n]) n.path (L.drop (k+1))):=by
 have h1:=(List.getElem?_eq_some_iff.1 h);rw [List.drop_eq_getElem_cons h1.1,h1.2,goI]
theorem take_snoc' (L:List Nd) {n:Nd} {k:Nat} (h:L[k]? =some n):L.take (k+1)=L.take k++[n]:=by
 have h1:=(List.getElem?_eq_some_iff.1 h);rw [List.take_succ_eq_append_getElem h1.1,h1.2]
end Pl
namespace zm9
set_option maxRecDepth 100000 in
set_option maxHeartbeats 1000000 in
theorem nodes_any (a:Option Addr) (cap:Nat) (L:List Pl.Nd) (w:World) (hl:L.length≤1048576) (hv:Mem.za9 w a L) (hok:∀n∈L,n.path.size≤1048576∧n.data.size≤1048576)
  (r1 r2 r3:TypeId) (x1 x2 x3:Value) (hE:Errs w r1 r2 r3 x1 x2 x3):
  Calls Tryz.prog 161 #[.agg #[.slice a L.length cap]] w fun e w'=>((Pl.zc7 L=true∧∃B,e= .returned (.tuple #[.map (some B), .nilIface])∧w.heap.size≤B∧w'.ownsMap Tryz.prog 9 MapN.elem B 40 (MapN.mapOf L))∨
   (Pl.zc7 L=false∧e= .returned (.tuple #[.map none, .iface r1 x1])))∧Below w.heap.size w w':=by
 have b0:Below w.heap.size w (w.alloc (.cells #[.slice a L.length cap] 141)):=bE0;have HV:=hide hv;have HO:=hide hok;have HE:=hide hE;have hvar:=hide (Mem.zi5 w [.slice a L.length cap] 141);have hmm:=@run_makeMap Tryz.prog;have k1:=(hE.call b0).c1;clear hv hok hE;by_cases h40:40<L.length
 ·have F:=hide (show Pl.zc7 L=false by simp [Pl.zc7];omega);go_enter Tryz.func161,Tryz.ntmps161
  go_wp2
  go_region
  go_wp2
  go_ret2
  exact ⟨.inr ⟨za F,rfl⟩,Mem.below_drewN b0 1⟩
 have h41:Pl.zc7 L=Pl.goI [] ⟨#[]⟩ L:=by rw [Pl.zc7,show decide (L.length≤40)=true by simp;omega];rfl
 rw [h41];clear h41;generalize hR:Pl.goI [] ⟨#[]⟩ L=R;have HR:=hide hR;clear hR;go_enter Tryz.func161,Tryz.ntmps161
 go_wp2
 go_loopw [5,17] (fun v i wr=>∃ (k:Nat) (lp:ByteArray),k≤L.length∧i= .int .i64 (k:Int)∧v= .string lp∧lp.size≤200∧Below w.heap.size w wr∧Hid (wr.ownsMap Tryz.prog 9 MapN.elem (w.heap.size+1) k (MapN.mapOf (L.take k)))∧Hid (Pl.Inv (L.take k) lp)∧Hid (R=Pl.goI (L.take k) lp (L.drop k))) (fun _ i _=>L.length - (intOf i).toNat)
 case atStart=>
  refine ⟨0,⟨#[]⟩,Nat.zero_le _,rfl,rfl,Nat.zero_le _,?_,?_,Pl.inv_start,(za HR).symm⟩
  ·exact b0.alloc (by simp) _
  ·have h:=World.ownsMap_made (w.alloc (.cells #[.slice a L.length cap] 141)) Tryz.prog 9 MapN.elem;rw [show (w.alloc (.cells #[.slice a L.length cap] 141)).heap.size=w.heap.size+1 by simp] at h;exact h
 case round=>
  obtain ⟨k,lp,hk,rfl,rfl,hlp,hbel,HM,HI,HR2⟩:=hrel;by_cases hlt:k<L.length
  ·obtain ⟨n,hn⟩:∃n,L[k]? =some n:=⟨_,List.getElem?_eq_getElem hlt⟩;obtain ⟨b,o,rfl,hb,q0,q1,q2,q3,q4⟩:=(Mem.za7 (za HV) hbel) k n hn;have y1:(k:Int)<(L.length:Int):=by omega
   have y3:(0:Int)≤(k:Int):=by omega
   have hBl:=(za HM).lt;have hsn:=za HO n (List.mem_of_getElem? hn);have hnr:=hide (fun W=>WNode.zy n W hsn.1 hsn.2);have hls:=hide (fun W=>WLess.less_any lp n.path W (by omega) hsn.1)
   change Hid (∀W,Calls Tryz.prog _ _ W fun e w'=>e= .returned (.bool (Pl.ltP lp n.path))∧_) at hls
   have hpf:=hide (fun W hE hown hC=>fault_any (w.heap.size+1) k (L.take k) n.path W r1 r2 r3 x1 x2 x3 hE hown hC hsn.1);have UG:=hide (Pl.goI_step L (n:=n) (k:=k) hn (L.take k) lp);have HN:=hide hn;have hkey:=MapN.zl8 (p:=n.path) (by have :=hsn.1;unfold maxLen;omega);have zn:=Mem.zi5 wr [.string n.path, .int .i64 n.kind, .string n.data, .int .i64 n.time, .int .i64 n.mark] 56;have bw1:Below wr.heap.size wr (wr.alloc (.cells #[.string n.path, .int .i64 n.kind, .string n.data, .int .i64 n.time, .int .i64 n.mark] 56)):=bE0;have bw2:=hbel.trans (bw1.mono hbel.size);have HM1:=hide (ze4 (za HM) bw1);clear hn HM;simp only [Pl.Nd.val] at hnr;go_wp2_with fail
   refine (za hnr _).mono ?_;rintro e wA ⟨rfl,bA⟩;have znA:=Mem.zq3 zn bA;have bwA:=bw2.trans (bA.mono bw2.size);have HMA:=hide (ze4 (za HM1) bA);have kA:=((za HE).call bwA).c1;clear zn bw1 bw2 bA HM1 q0 q1 q2 q3 q4 hnr;have c0:=znA.2 0 _ rfl;cases hnb:Pl.zb1 n
   ·have F:=hide (show R=false by rw [za HR2,za UG,hnb];rfl);clear hnb;go_wp2
    go_region
    go_wp2
    go_ret2
    exact ⟨.inr ⟨za F,rfl⟩,Mem.below_drewN bwA 1⟩
   have HNB:=hide hnb;clear hnb;go_wp2_with fail
   refine (za hls _).mono ?_;rintro e wB ⟨rfl,bB⟩;have znB:=Mem.zq3 znA bB;have bwB:=bwA.trans (bB.mono bwA.size);have HMB:=hide (ze4 (za HMA) bB);have kB:=((za HE).call bwB).c1;clear znA bwA bB HMA c0 kA hls;have c0:=znB.2 0 _ rfl;cases hlb:Pl.ltP lp n.path
   ·have F:=hide (show R=false by rw [za HR2,za UG,za HNB,hlb];rfl);clear hlb;go_wp2
    go_region
    go_wp2
    go_ret2
    exact ⟨.inr ⟨za F,rfl⟩,Mem.below_drewN bwB 1⟩
   have HLB:=hide hlb;clear hlb;go_wp2_with fail
   refine (za hpf _ ((za HE).call bwB) (za HMB) (Pl.inv_apart (za HI))).mono ?_;rintro e wC ⟨rfl,bC⟩;have znC:=Mem.zq3 znB bC;have bwC:=bwB.trans (bC.mono bwB.size);have HMC:=hide (ze4 (za HMB) bC);have kC:=((za HE).call bwC).c1;clear znB bwB bC HMB c0 kB hpf
   rcases Pl.par_ok (p:=n.path) (u2:=r2) (u3:=r3) (x2:=x2) (x3:=x3) (Pl.inv_apart (za HI)) with ⟨hp1,hp2⟩|⟨hp1,uu,xx,hp2⟩
   rotate_left
   ·have F:=hide (show R=false by rw [za HR2,za UG,za HNB,za HLB,hp1];rfl);rw [hp2];clear hp1 hp2;go_wp2
    go_region
    go_wp2
    go_ret2
    exact ⟨.inr ⟨za F,rfl⟩,Mem.below_drewN bwC 1⟩
   have HR3:=hide (show R=Pl.goI (L.take k++[n]) n.path (L.drop (k+1)) by rw [za HR2,za UG,za HNB,za HLB,hp1];rfl);rw [hp2];clear hp1 hp2;have c0:=znC.2 0 _ rfl;have c1:=znC.2 1 _ rfl;have c2:=znC.2 2 _ rfl;have c3:=znC.2 3 _ rfl;have c4:=znC.2 4 _ rfl;have hzl:=znC.1;have hne:some wr.heap.size≠some (w.heap.size+1):=fun e=>by have :=Option.some.inj e;omega
   go_wp2_with (first |(at_mapUpdate;refine wpList_mapUpdate_own _ rfl _ _ _ 166 rfl 9 56 MapN.law Tryz.underlying166 _ (w.heap.size+1) k _ rfl (za HMC) (by unfold maxLen;omega) _ _ _ rfl rfl hkey _ [] (MapN.zt6 n) ?_;intro wD hownD hgrowD;have cD:=hgrowD.cell c0 hne;have HOD:=hide hownD;have bwD:=bwC.grown hgrowD bwC.size (fun k hk=>by cases hk;omega);clear hownD hgrowD)|fail)
   have HI2:=hide (Pl.inv_step (za HI) (za HNB) (za HLB));have hnl:=Pl.zj4 (Pl.zn5 (za HNB)).1;have HT:=hide (Pl.take_snoc' L (za HN));go_wp2
   go_roundw
   case rel=>
    refine ⟨k+1,n.path,by omega,by go_num,rfl,hnl,bwD,?_,?_,?_⟩
    ·rw [za HT,MapN.zy9];exact HOD
    ·rw [za HT];exact HI2
    ·rw [za HT];exact HR3
   case measure=>simp [intOf];omega
  ·obtain rfl:k=L.length:=by omega
   have F:=hide (show R=true by rw [za HR2,List.drop_length];rfl);rw [List.take_length] at HM;clear HR2;go_wp2
   go_ret2
   exact ⟨.inl ⟨za F,w.heap.size+1,rfl,by omega,(za HM).mono (by omega)⟩,hbel⟩
end zm9
end
section
open Go.RowKit
namespace zs4
set_option linter.unusedSimpArgs false in
set_option maxRecDepth 100000 in
set_option maxHeartbeats 1000000 in
theorem item_any (m:Int) (a:Option Addr) (cap:Nat) (L:List Pl.Nd) (w:World) (hl:L.length≤1048576) (hv:Mem.za9 w a L) (hok:∀n∈L,n.path.size≤1048576∧n.data.size≤1048576)
  (r1 r2 r3:TypeId) (x1 x2 x3:Value) (hE:zm9.Errs w r1 r2 r3 x1 x2 x3):
  Calls Tryz.prog 153 #[.agg #[.int .i64 m, .slice a L.length cap]] w fun e w'=>((Pl.zf0 m L=true∧∃B,e= .returned (.tuple #[.agg #[.map (some B), .int .i64 m], .nilIface])∧w.heap.size≤B∧Mem.ownM w' B L)∨
   (Pl.zf0 m L=false∧∃k,e= .returned (.tuple #[.agg #[.map none, .int .i64 k], .iface r1 x1])))∧Below w.heap.size w w':=by
 have b0:Below w.heap.size w ((w.alloc (.cells #[.int .i64 m, .slice a L.length cap] 143)).alloc (.cells #[.map none, .int .i64 0] 168)):=(bE0).alloc (by simp) _;have k1:=(hE.call b0).c1;have HB0:=hide b0;by_cases h1:m<0
 ·have hb:Pl.zf0 m L=false:=by unfold Pl.zf0;rw [show decide (0≤m)=false from decide_eq_false (by omega)];simp
  clear b0 hv hok hE;go_enter Tryz.func153,Tryz.ntmps153
  go_wp2
  go_region
  go_wp2
  refine bodyPost_ret (v:= .tuple #[.agg #[.map none, .int .i64 0], .iface r1 x1]) (by simp [results,Tryz.results153,go_sem]) rfl ⟨.inr ⟨hb,0,rfl⟩,?_⟩;exact Mem.below_drewN (za HB0) 1
 by_cases h2:4<m
 ·have hb:Pl.zf0 m L=false:=by unfold Pl.zf0;rw [show decide (m≤4)=false from decide_eq_false (by omega)];simp
  clear b0 hv hok hE;go_enter Tryz.func153,Tryz.ntmps153
  go_wp2
  go_region
  go_wp2
  refine bodyPost_ret (v:= .tuple #[.agg #[.map none, .int .i64 0], .iface r1 x1]) (by simp [results,Tryz.results153,go_sem]) rfl ⟨.inr ⟨hb,0,rfl⟩,?_⟩;exact Mem.below_drewN (za HB0) 1
 by_cases h3:0<m∧0<L.length
 ·have hb:Pl.zf0 m L=false:=by
   rw [Pl.zz8 (by omega),show decide (L.length=0)=false from decide_eq_false (by omega)];simp
  have u1:=h3.1;have u2:(0:Int)<(L.length:Int):=by omega
  clear b0 hv hok hE;go_enter Tryz.func153,Tryz.ntmps153
  go_wp2
  go_region
  go_wp2
  refine bodyPost_ret (v:= .tuple #[.agg #[.map none, .int .i64 0], .iface r1 x1]) (by simp [results,Tryz.results153,go_sem]) rfl ⟨.inr ⟨hb,0,rfl⟩,?_⟩;exact Mem.below_drewN (za HB0) 1
 have hb:Pl.zf0 m L=Pl.zc7 L:=by
  by_cases h0:m=0
  ·subst h0;exact Pl.yf8 L
  ·have hL:L=[]:=List.eq_nil_of_length_eq_zero (by omega);subst hL;rw [Pl.zz8 h0,Pl.treeB_nil,decide_eq_true (show 1≤m by omega),decide_eq_true (show m≤4 by omega)];rfl
 rw [hb];have hz:=hide (zm9.nodes_any a cap L _ hl (Mem.za7 hv b0) hok r1 r2 r3 x1 x2 x3 (hE.call b0))
 have r2':Mem.Blk ((w.alloc (.cells #[.int .i64 m, .slice a L.length cap] 143)).alloc (.cells #[.map none, .int .i64 0] 168)) (w.heap.size+1) #[.map none, .int .i64 0] 168:=by
  have :=Mem.Blk.new (w.alloc (.cells #[.int .i64 m, .slice a L.length cap] 143)) #[.map none, .int .i64 0] 168
  simpa using this
 have r1':Mem.Blk ((w.alloc (.cells #[.int .i64 m, .slice a L.length cap] 143)).alloc (.cells #[.map none, .int .i64 0] 168)) w.heap.size #[.int .i64 m, .slice a L.length cap] 143:=(Mem.Blk.new w _ _).alloc _;clear hv hok hE k1 b0 hb;by_cases h4:0<m
 ·have u2:¬ (0:Int)<(L.length:Int):=by omega
  go_enter Tryz.func153,Tryz.ntmps153
  go_wp2_with fail
  generalize ((w.alloc (.cells #[.int .i64 m, .slice a L.length cap] 143)).alloc (.cells #[.map none, .int .i64 0] 168))=w2 at hz r1' r2' HB0 ⊢;refine (za hz).mono ?_;rintro e w1 ⟨h1,b1⟩;have R1:=r1'.call b1;have R2:=r2'.call b1;obtain ⟨c10,c11⟩:=jc2 R1;obtain ⟨⟨c20,c21⟩,f20,f21⟩:=jf2 R2;have bb:=hide ((za HB0).trans (b1.mono (za HB0).size));have HS2:Hid (w.heap.size+2≤w2.heap.size):=hide (by have :=r2'.lt;omega);clear hz b1 r1' r2' R1 R2 HB0
  rcases h1 with ⟨hT,B,rfl,hB,hm⟩|⟨hT,rfl⟩
  ·have HM:Hid (w.heap.size≤B∧Mem.ownM ((w1.setCell ⟨w.heap.size+1,0,none⟩ (.map (some B))).setCell ⟨w.heap.size+1,1,none⟩ (.int .i64 m)) B L):=
    hide ⟨by have :=(za HS2);omega,(Mem.ownM.set (Mem.ownM.set hm _ _ (by have :=(za HS2);show B≠w.heap.size+1;omega)) _ _ (by have :=(za HS2);show B≠w.heap.size+1;omega))⟩
   clear hm hB;go_wp2
   refine bodyPost_ret (v:= .tuple #[.agg #[.map (some B), .int .i64 m], .nilIface]) (by simp [results,Tryz.results153,go_sem,c20,c21]) rfl ⟨.inl ⟨hT,B,rfl,za HM⟩,?_⟩;exact ((za bb).setCell (by show w.heap.size≤w.heap.size+1;omega) _).setCell (by show w.heap.size≤w.heap.size+1;omega) _
  ·go_wp2
   refine bodyPost_ret (v:= .tuple #[.agg #[.map none, .int .i64 m], .iface r1 x1]) (by simp [results,Tryz.results153,go_sem,c20,c21]) rfl ⟨.inr ⟨hT,m,rfl⟩,?_⟩;exact ((za bb).setCell (by show w.heap.size≤w.heap.size+1;omega) _).setCell (by show w.heap.size≤w.heap.size+1;omega) _
 ·go_enter Tryz.func153,Tryz.ntmps153
  go_wp2_with fail
  generalize ((w.alloc (.cells #[.int .i64 m, .slice a L.length cap] 143)).alloc (.cells #[.map none, .int .i64 0] 168))=w2 at hz r1' r2' HB0 ⊢;refine (za hz).mono ?_;rintro e w1 ⟨h1,b1⟩;have R1:=r1'.call b1;have R2:=r2'.call b1;obtain ⟨c10,c11⟩:=jc2 R1;obtain ⟨⟨c20,c21⟩,f20,f21⟩:=jf2 R2;have bb:=hide ((za HB0).trans (b1.mono (za HB0).size));have HS2:Hid (w.heap.size+2≤w2.heap.size):=hide (by have :=r2'.lt;omega);clear hz b1 r1' r2' R1 R2 HB0
  rcases h1 with ⟨hT,B,rfl,hB,hm⟩|⟨hT,rfl⟩
  ·have HM:Hid (w.heap.size≤B∧Mem.ownM ((w1.setCell ⟨w.heap.size+1,0,none⟩ (.map (some B))).setCell ⟨w.heap.size+1,1,none⟩ (.int .i64 m)) B L):=
    hide ⟨by have :=(za HS2);omega,(Mem.ownM.set (Mem.ownM.set hm _ _ (by have :=(za HS2);show B≠w.heap.size+1;omega)) _ _ (by have :=(za HS2);show B≠w.heap.size+1;omega))⟩
   clear hm hB;go_wp2
   refine bodyPost_ret (v:= .tuple #[.agg #[.map (some B), .int .i64 m], .nilIface]) (by simp [results,Tryz.results153,go_sem,c20,c21]) rfl ⟨.inl ⟨hT,B,rfl,za HM⟩,?_⟩;exact ((za bb).setCell (by show w.heap.size≤w.heap.size+1;omega) _).setCell (by show w.heap.size≤w.heap.size+1;omega) _
  ·go_wp2
   refine bodyPost_ret (v:= .tuple #[.agg #[.map none, .int .i64 m], .iface r1 x1]) (by simp [results,Tryz.results153,go_sem,c20,c21]) rfl ⟨.inr ⟨hT,m,rfl⟩,?_⟩;exact ((za bb).setCell (by show w.heap.size≤w.heap.size+1;omega) _).setCell (by show w.heap.size≤w.heap.size+1;omega) _
end zs4
end
section
open Go.RowKit
namespace zs4
theorem infoN:(Tryz.prog.info? 171).map (fun i=>(i.zero,i.size,i.bytes))=some (some (.agg #[.map none, .int .i64 0, .slice none 0 0]),3,40):=by kernel_rfl
structure Tk (w wr:World) (B X2 X7:Nat) (q:Nat) (L:List Pl.Nd) (m:Int) (v:Value) (F:Pl.Fx) (xs:List Value):Prop where
 bel:Below w.heap.size w wr
 big:B≤wr.heap.size
 x2:Mem.Blk wr X2 #[.map none, .int .i64 0, .slice none 0 0] 171
 x7:Mem.Blk wr X7 #[.map (some q), .int .i64 m,v] 171
 l2:w.heap.size≤X2∧X2<B
 l7:w.heap.size≤X7∧X7<B
 ne:X2≠X7
 row:wr.ownsRow B 171 3 v F.len xs
 cells:Mem.zj1 wr (fun b=>B≤b∧v.ownBlock≠some b) F xs
 lq:w.heap.size≤q∧q<B∧q≠X2∧q≠X7
 mq:Mem.ownM wr q L
 ord:(q::Mem.zk wr F xs).Pairwise (· < ·)
theorem zg1 {w w':World} {B n s:Nat} {T:TypeId} {v:Value} {xs:List Value} (h:w.ownsRow B T s v n xs) (b:Below w.heap.size w w'):w'.ownsRow B T s v n xs:=by
 refine ⟨h.1,?_⟩
 rcases h.2 with h0|⟨g,cap,cur,hv,hb,hg,rest⟩
 ·exact .inl h0
 ·exact .inr ⟨g,cap,cur,hv,hb,(b.block g (Array.getElem?_eq_some_iff.1 hg).1).trans hg,rest⟩
theorem zd1 {w:World} {B n s:Nat} {T:TypeId} {v:Value} {xs:List Value} (h:w.ownsRow B T s v n xs) (p:Addr) (u:Value) (hp:p.block<B):(w.setCell p u).ownsRow B T s v n xs:=by
 refine ⟨h.1,?_⟩
 rcases h.2 with h0|⟨g,cap,cur,hv,hb,hg,rest⟩
 ·exact .inl h0
 ·exact .inr ⟨g,cap,cur,hv,hb,(heap_setCell_other _ _ _ _ (by omega)).trans hg,rest⟩
theorem Tk.step {w wr w1 w4:World} {B X2 X7:Nat} {q q1:Nat} {L L1:List Pl.Nd} {m:Int} {v v1 v':Value} {F kids:Pl.Fx} {xs:List Value} {o1 o2:Obj} (h:Tk w wr B X2 X7 q L m v F xs)
  (b1:Below wr.heap.size wr w1) (hl:Mem.layX w1 (fun b=>wr.heap.size≤b) kids v1) (hq1:wr.heap.size≤q1) (hap:Mem.apart w1 q1 kids v1) (hm1:Mem.ownM w1 q1 L1)
  (own:w4.ownsRow B 171 3 v' (F.len+1) (xs++[.map (some q1), .int .i64 (kids.len:Int),v1])) (gr:((w1.alloc o1).alloc o2).grownBy w4 v.ownBlock) (far:∀g,v'.ownBlock=some g→v.ownBlock=some g∨((w1.alloc o1).alloc o2).heap.size≤g):
  Tk w (w4.setCell ⟨X7,2,none⟩ v') B X2 X7 q L m v' (F.app (.cons L1 kids .nil)) (xs++[.map (some q1), .int .i64 (kids.len:Int),v1]):=by
 have hw1:wr.heap.size≤w1.heap.size:=b1.size;have hs3:((w1.alloc o1).alloc o2).heap.size=w1.heap.size+1+1:=by simp
 have b3:Below wr.heap.size wr ((w1.alloc o1).alloc o2):=(b1.alloc hw1 o1).alloc (by simp;omega) o2;have b13:Below w1.heap.size w1 ((w1.alloc o1).alloc o2):=((Below.refl _ _).alloc (Nat.le_refl _) o1).alloc (by simp) o2;have e5:(w4.setCell ⟨X7,2,none⟩ v').heap.size=w4.heap.size:=by simp
 have hv7:some X7≠v.ownBlock:=fun e=>by have :=(h.row.lt X7 e.symm).1;have :=h.l7.2;omega
 have hv2:some X2≠v.ownBlock:=fun e=>by have :=(h.row.lt X2 e.symm).1;have :=h.l2.2;omega
 have hbig:=h.big
 have keep:∀b,B≤b→v.ownBlock≠some b→b<w1.heap.size→(w4.setCell ⟨X7,2,none⟩ v').heap[b]? =w1.heap[b]?:=fun b hb hne hlt=>by
  rw [heap_setCell_other _ _ _ _ (by show b≠X7;have :=h.l7.2;omega),gr.block b (by omega) (fun e=>hne e.symm)];exact b13.block b hlt
 have hsz:∀b,b<w1.heap.size→b<(w4.setCell ⟨X7,2,none⟩ v').heap.size:=fun b hb=>by have :=gr.size;omega
 have hnew:∀b,v.ownBlock≠some b→b<w1.heap.size→v'.ownBlock≠some b:=fun b hne hlt e=>by
  rcases far b e with h'|h'
  ·exact hne h'
  ·omega
 have hnw:∀b,wr.heap.size≤b→b<w1.heap.size→v.ownBlock≠some b:=fun b hb hlt e=>by have :=(h.row.lt b e).2;omega
 refine ⟨?_,?_,?_,?_,h.l2,h.l7,h.ne,?_,?_,h.lq,?_,?_⟩
 ·refine Below.setCell ?_ (by show w.heap.size≤X7;exact h.l7.1) _;have bw3:=h.bel.trans (b3.mono h.bel.size);refine ⟨gr.os.trans bw3.os,gr.tape.trans bw3.tape,gr.output.trans bw3.output,Nat.le_trans bw3.size gr.size,fun k hk=>?_⟩;have hk2:=h.bel.size;rw [gr.block k (by omega) (fun e=>by have :=(h.row.lt k e.symm).1;have :=h.l7;omega)];exact bw3.block k hk
 ·have :=gr.size;omega
 ·exact ((h.x2.call b3).grown gr hv2).far _ _ h.ne
 ·exact ((h.x7.call b3).grown gr hv7).put 2 v'
 ·rw [Pl.Fx.len_app];exact zd1 own _ _ h.l7.2
 ·refine Mem.cellsX_snoc ⟨by omega,hnew q1 (hnw q1 hq1 hm1.lt) hm1.lt⟩ (hm1.same (keep q1 (by omega) (hnw q1 hq1 hm1.lt) hm1.lt)) (Mem.zm3 (fun b hb hlt=>?_) hl) F xs (Mem.yd5 (fun b hb hlt=>?_) F xs h.cells)
  ·exact ⟨⟨by omega,hnew b (hnw b hb hlt) hlt⟩,hsz b hlt,keep b (by omega) (hnw b hb hlt) hlt⟩
  ·exact ⟨⟨hb.1,hnew b hb.2 (by omega)⟩,hsz b (by omega),(keep b hb.1 hb.2 (by omega)).trans (b1.block b hlt)⟩
 ·have hq:=h.mq.lt;refine h.mq.same ?_;rw [heap_setCell_other _ _ _ _ (show q≠X7 from h.lq.2.2.2),gr.block q (by omega) (fun e=>by have :=(h.row.lt q e.symm).1;have :=h.lq.2.1;omega)];exact b3.block q hq
 ·have c1:Mem.zj1 (w4.setCell ⟨X7,2,none⟩ v') (fun b=>B≤b) F xs:=Mem.yd5 (fun b hb hlt=>⟨hb.1,hsz b (by omega),(keep b hb.1 hb.2 (by omega)).trans (b1.block b hlt)⟩) F xs h.cells;have e1:Mem.zk (w4.setCell ⟨X7,2,none⟩ v') F xs=Mem.zk wr F xs:=Mem.mapsC_same (fun b hb hlt=>(keep b hb.1 hb.2 (by omega)).trans (b1.block b hlt)) F xs h.cells;have e2:Mem.zj6 (w4.setCell ⟨X7,2,none⟩ v') kids v1=Mem.zj6 w1 kids v1:=Mem.zt2 (fun b hb hlt=>keep b (by omega) (hnw b hb hlt) hlt) hl;rw [Mem.mapsC_snoc L1 kids q1 _ v1 F xs c1,e1,e2,←List.cons_append,List.pairwise_append];refine ⟨h.ord,hap,fun x hx y hy=>?_⟩
  have hxl:x<wr.heap.size:=by
   rcases List.mem_cons.1 hx with rfl |hx
   ·exact h.mq.lt
   ·exact (Mem.mapsC_in F xs h.cells x hx).2
  have hyl:wr.heap.size≤y:=by
   rcases List.mem_cons.1 hy with rfl |hy
   ·exact hq1
   ·exact (Mem.mapsL_in hl y hy).1
  omega
theorem Tk.mid {w wr w1 w4:World} {B X2 X7:Nat} {q:Nat} {L:List Pl.Nd} {m:Int} {v:Value} {F:Pl.Fx} {xs:List Value} {o1 o2:Obj} (h:Tk w wr B X2 X7 q L m v F xs)
  (b1:Below wr.heap.size wr w1) (gr:((w1.alloc o1).alloc o2).grownBy w4 v.ownBlock):Mem.Blk w4 X7 #[.map (some q), .int .i64 m,v] 171:=
 (((h.x7.call b1).alloc o1).alloc o2).grown gr (fun e=>by have :=(h.row.lt X7 e.symm).1;have :=h.l7.2;omega)
theorem Tk.conc {w wr:World} {B X2 X7:Nat} {q:Nat} {L:List Pl.Nd} {m:Int} {v:Value} {F:Pl.Fx} {xs:List Value} (h:Tk w wr B X2 X7 q L m v F xs):∃a cap,v= .slice a F.len cap:=by
 rcases h.row.2 with ⟨h1,h0⟩|⟨g,cap,cur,h1,_⟩
 ·exact ⟨none,0,by rw [h1,h0]⟩
 ·exact ⟨_,cap,h1⟩
theorem conc {w:World} {B n s:Nat} {T:TypeId} {v:Value} {xs:List Value} (h:w.ownsRow B T s v n xs):∃a cap,v= .slice a n cap:=by
 rcases h.2 with ⟨h1,h0⟩|⟨g,cap,cur,h1,_⟩
 ·exact ⟨none,0,by rw [h1,h0]⟩
 ·exact ⟨_,cap,h1⟩
theorem three_new (w:World) (cs:List Value) (T:TypeId) (o:Obj):∀j u,cs[j]? =some u→((w.alloc o).alloc (.cells cs.toArray T)).cell? ((⟨w.heap.size+1,0,none⟩:Addr).add j)=some u:=by
 intro j u hj;rw [Mem.add_lit];have :=(Mem.zi5 (w.alloc o) cs T).2 j u hj
 simpa using this
theorem Tk.done {w wr:World} {B X2 X7:Nat} {q:Nat} {L:List Pl.Nd} {m:Int} {v:Value} {F:Pl.Fx} {xs:List Value} (h:Tk w wr B X2 X7 q L m v F xs) (u0 u1 u2:Value):
  Mem.layX (((wr.setCell ⟨X2,0,none⟩ u0).setCell ⟨X2,1,none⟩ u1).setCell ⟨X2,2,none⟩ u2) (fun b=>w.heap.size≤b) F v:=by
 refine Mem.zm3 (fun b hb hlt=>⟨?_,by simpa using hlt,?_⟩) (Mem.yc6 h.row h.cells (fun b hb=>hb.1))
 ·have :=h.l2;omega
 ·have :=h.l2.2;rw [heap_setCell_other _ _ _ _ (by show b≠X2;omega),heap_setCell_other _ _ _ _ (by show b≠X2;omega),heap_setCell_other _ _ _ _ (by show b≠X2;omega)]
theorem Tk.own {w wr:World} {B X2 X7:Nat} {q:Nat} {L:List Pl.Nd} {m:Int} {v:Value} {F:Pl.Fx} {xs:List Value} (h:Tk w wr B X2 X7 q L m v F xs) (u0 u1 u2:Value):
  Mem.ownM (((wr.setCell ⟨X2,0,none⟩ u0).setCell ⟨X2,1,none⟩ u1).setCell ⟨X2,2,none⟩ u2) q L:=
 ((h.mq.set _ _ h.lq.2.2.1).set _ _ h.lq.2.2.1).set _ _ h.lq.2.2.1
theorem Tk.apart {w wr:World} {B X2 X7:Nat} {q:Nat} {L:List Pl.Nd} {m:Int} {v:Value} {F:Pl.Fx} {xs:List Value} (h:Tk w wr B X2 X7 q L m v F xs) (u0 u1 u2:Value):
  Mem.apart (((wr.setCell ⟨X2,0,none⟩ u0).setCell ⟨X2,1,none⟩ u1).setCell ⟨X2,2,none⟩ u2) q F v:=by
 have e:Mem.zj6 (((wr.setCell ⟨X2,0,none⟩ u0).setCell ⟨X2,1,none⟩ u1).setCell ⟨X2,2,none⟩ u2) F v=Mem.zj6 wr F v:=Mem.zt2 (fun b hb hlt=>by
  have :=h.l2.2
  rw [heap_setCell_other _ _ _ _ (by show b≠X2;omega),heap_setCell_other _ _ _ _ (by show b≠X2;omega),heap_setCell_other _ _ _ _ (by show b≠X2;omega)]) (Mem.yc6 h.row h.cells (fun b hb=>hb.1))
 show (q::_).Pairwise _;rw [e,Mem.mapsL_of_row h.row h.cells];exact h.ord
end zs4
end
end Go.Proofs.YtgdjjncmocppeaaGreatDoor
