/- Several texts of one claim in one file: WSpecR, WNode, WBothI, WLess, MapN, WJoin, WPathOf, WParentI. -/
import Derived.Test.YtfdbokipgofcdaaGreatDoorG02
import Derived.Test.YtfdbokipgofcdaaGreatDoorG00
import Derived.Deep.QuietTactic
import Derived.BigQuiet
import Derived.Deep.RegionHeld3
import Derived.Test.YtfdbokipgofcdaaGreatDoorProg
import Derived.Below
import Derived.Maps.OwnSet
import Derived.WalkSpells
namespace Go.Proofs.YtfdbokipgofcdaaGreatDoor
open Go.RowKit
namespace zh5
theorem right_one (s : ByteArray) (w : World) (hs : s.size ≤ 1048576) :
  Calls Tryz.prog 129 #[.string s] w fun e w' => e = .returned (.bool (Pl.za5 s)) ∧ Below w.heap.size w w' := zf4 s w (by unfold maxLen; omega)
end zh5
end Go.Proofs.YtfdbokipgofcdaaGreatDoor

namespace Go.Proofs.YtfdbokipgofcdaaGreatDoor
open Go.RowKit
namespace WNode
set_option maxRecDepth 100000 in
theorem is_any (a b c : Int) (w : World) :
    Calls Tryz.prog 72 #[.int .i64 a, .int .i64 b, .int .i64 c] w fun e w' => e = .returned (.bool (decide (b ≤ a) && decide (a ≤ c))) ∧ w' = w := by
  by_cases h1 : b ≤ a
  · go_enter Tryz.func72, Tryz.ntmps72
    go_wp2
    go_ret
    exact ⟨za4 (by simp [h1]), rfl⟩
  · go_enter Tryz.func72, Tryz.ntmps72
    go_wp2
    go_ret
    exact ⟨za4 (by simp [show ¬ b ≤ a by omega]), rfl⟩
set_option maxRecDepth 100000 in
theorem time_any (a : Int) (w : World) :
    Calls Tryz.prog 130 #[.int .i64 a] w fun e w' => e = .returned (.bool (decide (0 ≤ a) && decide (a ≤ 1000000))) ∧ w' = w := by
  go_enter Tryz.func130, Tryz.ntmps130
  go_wp2_with fail
  refine (is_any a 0 1000000 _).mono ?_
  rintro e w1 ⟨rfl, rfl⟩
  go_wp2
  go_ret
  exact ⟨rfl, rfl⟩
set_option maxRecDepth 100000 in
set_option maxHeartbeats 2000000 in
theorem zd0 (n : Pl.Nd) (w : World) (hp : n.path.size ≤ 1048576) (hd : n.data.size ≤ 1048576) :
    Calls Tryz.prog 109 #[n.val] w fun e w' => e = .returned (.bool (Pl.zb6 n)) ∧ Below w.heap.size w w' := by
  have E0 := hide (@Pl.node_root n)
  have E1 := hide (@Pl.node_path n)
  have E2 := hide (@Pl.node_data n)
  have E3 := hide (@Pl.node_time n)
  have E4 := hide (@Pl.node_mark n)
  have E5 := hide (@Pl.node_kind n)
  have EK : Hid (Pl.zm5 n = (if n.kind = 0 then decide (n.data.size = 0) && decide (n.time = 0) && decide (1 ≤ n.mark) else if n.kind = 1 then decide (n.data.size = 0) else if n.kind = 2 then decide (n.mark = 0) else false)) := rfl
  generalize Pl.zb6 n = R at E0 E1 E2 E3 E4 E5 ⊢
  generalize Pl.zm5 n = R2 at E5 EK
  obtain ⟨p, k, d, t, m⟩ := n
  simp only at hp hd E0 E1 E2 E3 E4 E5 EK
  simp only [Pl.Nd.val]
  have hr := hide (fun W => zh5.right_one p W hp)
  generalize Pl.za5 p = r at hr E1 E5
  by_cases h0 : p.size = 0
  · have E := hide (za E0 h0)
    have t0 : p.toList.isEmpty = true := by rw [Pl.ze]; simpa [Pl.zj1] using h0
    clear E0 E1 E2 E3 E4 E5 EK
    go_enter Tryz.func109, Tryz.ntmps109
    go_wp2
    go_ret
    exact ⟨za4 (za E).symm, (Below.refl _ _).alloc (Nat.le_refl _) _⟩
  have t0 : p.toList.isEmpty = false := by rw [Pl.ze]; simpa [Pl.zj1] using h0
  cases r
  · have E := hide (za E1 rfl)
    clear E0 E1 E2 E3 E4 E5 EK
    go_enter Tryz.func109, Tryz.ntmps109
    have hv := Mem.ze0 w [.string p, .int .i64 k, .string d, .int .i64 t, .int .i64 m] 89
    have hb0 : Below w.heap.size w (w.alloc (.cells #[.string p, .int .i64 k, .string d, .int .i64 t, .int .i64 m] 89)) := (Below.refl _ _).alloc (Nat.le_refl _) _
    go_wp2_with fail
    refine (za hr _).mono ?_
    rintro e w1 ⟨rfl, b1⟩
    have b2 := hb0.trans (b1.mono hb0.size)
    clear hv hb0 b1
    go_wp2
    go_ret
    exact ⟨za4 (za E).symm, b2⟩
  have E := hide (fun h2 h3 h4 => za E5 h0 rfl h2 h3 h4)
  clear E0 E1 E5
  have LEN : Hid (d.size = 0 ↔ d.toList.isEmpty = true) := by show _ ↔ _; rw [Pl.ze]; simp [Pl.zj1]
  go_enter Tryz.func109, Tryz.ntmps109
  have hv := Mem.ze0 w [.string p, .int .i64 k, .string d, .int .i64 t, .int .i64 m] 89
  have hb0 : Below w.heap.size w (w.alloc (.cells #[.string p, .int .i64 k, .string d, .int .i64 t, .int .i64 m] 89)) := (Below.refl _ _).alloc (Nat.le_refl _) _
  go_wp2_with fail
  refine (za hr _).mono ?_
  rintro e w1 ⟨rfl, b1⟩
  have hb := hb0.trans (b1.mono hb0.size)
  obtain ⟨-, hc⟩ := Mem.zg9 hv b1
  have c0 := hc 0 _ rfl
  have c1 := hc 1 _ rfl
  have c2 := hc 2 _ rfl
  have c3 := hc 3 _ rfl
  have c4 := hc 4 _ rfl
  clear hv hb0 b1 hc hr
  by_cases h2 : 60 < d.size
  · have F := hide (za E2 h2)
    clear E E2 E3 E4 EK
    go_wp2
    go_ret
    exact ⟨za4 (za F).symm, hb⟩
  have t2 : decide ((60 : Int) < (d.size : Int)) = false := by simp; omega
  by_cases h3 : 0 ≤ t ∧ t ≤ 1000000
  rotate_left
  · have F := hide (za E3 h3)
    have V : (decide (0 ≤ t) && decide (t ≤ 1000000)) = false := by simpa using h3
    clear E E2 E3 E4 EK
    go_wp2_with fail
    refine (time_any t _).mono ?_
    rintro e w2 ⟨rfl, hw⟩
    rw [V]
    obtain rfl := hw.symm
    go_wp2
    go_ret
    exact ⟨za4 (za F).symm, hb⟩
  have V : (decide (0 ≤ t) && decide (t ≤ 1000000)) = true := by simpa using h3
  go_wp2_with fail
  refine (time_any t _).mono ?_
  rintro e w2 ⟨rfl, hw⟩
  rw [V]
  obtain rfl := hw.symm
  clear V hw
  by_cases h4 : 0 ≤ m ∧ m ≤ 8
  rotate_left
  · have F := hide (za E4 h4)
    have V : (decide (0 ≤ m) && decide (m ≤ 8)) = false := by simpa using h4
    clear E E2 E3 E4 EK
    go_wp2_with fail
    refine (is_any m 0 8 _).mono ?_
    rintro e w2 ⟨rfl, hw⟩
    rw [V]
    obtain rfl := hw.symm
    go_wp2
    go_ret
    exact ⟨za4 (za F).symm, hb⟩
  have V : (decide (0 ≤ m) && decide (m ≤ 8)) = true := by simpa using h4
  go_wp2_with fail
  refine (is_any m 0 8 _).mono ?_
  rintro e w2 ⟨rfl, hw⟩
  rw [V]
  obtain rfl := hw.symm
  clear V hw
  have F := hide ((za E (by omega) h3 h4).trans (za EK))
  clear E E2 E3 E4 EK
  by_cases hd0 : d.size = 0
  · have u0 : d.toList.isEmpty = true := (za LEN).1 hd0
    clear LEN
    by_cases k0 : k = 0
    · subst k0
      by_cases m1 : 1 ≤ m
      · go_wp2
        go_ret
        exact ⟨za4 (by rw [za F]; simp [hd0, m1]; rfl), hb⟩
      · go_wp2
        go_ret
        exact ⟨za4 (by rw [za F]; simp [hd0, m1]), hb⟩
    by_cases k1 : k = 1
    · subst k1
      go_wp2
      go_ret
      exact ⟨za4 (by rw [za F]; simp [hd0]), hb⟩
    by_cases k2 : k = 2
    · subst k2
      go_wp2
      go_ret
      exact ⟨za4 (by rw [za F]; simp; rfl), hb⟩
    · have e0 : (k == 0) = false := by simpa using k0
      have e1 : (k == 1) = false := by simpa using k1
      have e2 : (k == 2) = false := by simpa using k2
      go_wp2
      go_ret
      exact ⟨za4 (by rw [za F]; simp [k0, k1, k2]), hb⟩
  · have u0 : d.toList.isEmpty = false := by
      cases hx : d.toList.isEmpty
      · rfl
      · exact absurd ((za LEN).2 hx) hd0
    clear LEN
    by_cases k2 : k = 2
    · subst k2
      go_wp2
      go_ret
      exact ⟨za4 (by rw [za F]; simp; rfl), hb⟩
    · have e2 : (k == 2) = false := by simpa using k2
      go_wp2
      go_ret
      exact ⟨za4 (by rw [za F]; simp [hd0, k2]), hb⟩
set_option maxRecDepth 100000 in
theorem kind_any (n : Pl.Nd) (w : World) (hd : n.data.size ≤ 1048576) :
    Calls Tryz.prog 148 #[n.val] w fun e w' => e = .returned (.bool (Pl.zm5 n)) ∧ Below w.heap.size w w' := by
  have EK : Hid (Pl.zm5 n = (if n.kind = 0 then decide (n.data.size = 0) && decide (n.time = 0) && decide (1 ≤ n.mark) else if n.kind = 1 then decide (n.data.size = 0) else if n.kind = 2 then decide (n.mark = 0) else false)) := rfl
  generalize Pl.zm5 n = R at EK ⊢
  obtain ⟨p, k, d, t, m⟩ := n
  simp only at hd EK
  simp only [Pl.Nd.val]
  have LEN : Hid (d.size = 0 ↔ d.toList.isEmpty = true) := by show _ ↔ _; rw [Pl.ze]; simp [Pl.zj1]
  have hb : ∀ o, Below w.heap.size w (w.alloc o) := fun o => (Below.refl _ _).alloc (Nat.le_refl _) o
  have HB := hide hb
  clear hb
  by_cases hd0 : d.size = 0
  · have u0 : d.toList.isEmpty = true := (za LEN).1 hd0
    clear LEN
    by_cases k0 : k = 0
    · subst k0
      by_cases t1 : t = 0
      · subst t1
        by_cases m1 : 1 ≤ m
        · have m2 : 0 < m := by omega
          go_enter Tryz.func148, Tryz.ntmps148
          go_wp2
          go_ret
          exact ⟨za4 (by rw [za EK]; simp [hd0, m1]), za HB _⟩
        · have m2 : ¬ 0 < m := by omega
          go_enter Tryz.func148, Tryz.ntmps148
          go_wp2
          go_ret
          exact ⟨za4 (by rw [za EK]; simp [hd0, m1]), za HB _⟩
      · have t2 : (t == 0) = false := by simpa using t1
        go_enter Tryz.func148, Tryz.ntmps148
        go_wp2
        go_ret
        exact ⟨za4 (by rw [za EK]; simp [hd0, t1]), za HB _⟩
    by_cases k1 : k = 1
    · subst k1
      go_enter Tryz.func148, Tryz.ntmps148
      go_wp2
      go_ret
      exact ⟨za4 (by rw [za EK]; simp [hd0]), za HB _⟩
    by_cases k2 : k = 2
    · subst k2
      go_enter Tryz.func148, Tryz.ntmps148
      go_wp2
      go_ret
      exact ⟨za4 (by rw [za EK]; simp; rfl), za HB _⟩
    · have e0 : (k == 0) = false := by simpa using k0
      have e1 : (k == 1) = false := by simpa using k1
      have e2 : (k == 2) = false := by simpa using k2
      go_enter Tryz.func148, Tryz.ntmps148
      go_wp2
      go_ret
      exact ⟨za4 (by rw [za EK]; simp [k0, k1, k2]), za HB _⟩
  · have u0 : d.toList.isEmpty = false := by
      cases hx : d.toList.isEmpty
      · rfl
      · exact absurd ((za LEN).2 hx) hd0
    clear LEN
    by_cases k0 : k = 0
    · subst k0
      go_enter Tryz.func148, Tryz.ntmps148
      go_wp2
      go_ret
      exact ⟨za4 (by rw [za EK]; simp [hd0]), za HB _⟩
    by_cases k1 : k = 1
    · subst k1
      go_enter Tryz.func148, Tryz.ntmps148
      go_wp2
      go_ret
      exact ⟨za4 (by rw [za EK]; simp [hd0]), za HB _⟩
    by_cases k2 : k = 2
    · subst k2
      go_enter Tryz.func148, Tryz.ntmps148
      go_wp2
      go_ret
      exact ⟨za4 (by rw [za EK]; simp; rfl), za HB _⟩
    · have e0 : (k == 0) = false := by simpa using k0
      have e1 : (k == 1) = false := by simpa using k1
      have e2 : (k == 2) = false := by simpa using k2
      go_enter Tryz.func148, Tryz.ntmps148
      go_wp2
      go_ret
      exact ⟨za4 (by rw [za EK]; simp [k0, k1, k2]), za HB _⟩
set_option maxRecDepth 100000 in
set_option maxHeartbeats 2000000 in
theorem content_any (n : Pl.Nd) (w : World) (hd : n.data.size ≤ 1048576) :
    Calls Tryz.prog 125 #[n.val] w fun e w' => e = .returned (.bool (Pl.zv7 n)) ∧ Below w.heap.size w w' := by
  have E2 := hide (@Pl.cont_data n)
  have E3 := hide (@Pl.cont_time n)
  have E4 := hide (@Pl.cont_mark n)
  have E5 := hide (@Pl.cont_kind n)
  have EK := hide (fun W => kind_any n W hd)
  generalize Pl.zv7 n = R at E2 E3 E4 E5 ⊢
  generalize Pl.zm5 n = R2 at E5 EK
  obtain ⟨p, k, d, t, m⟩ := n
  simp only at hd E2 E3 E4 E5
  simp only [Pl.Nd.val] at EK ⊢
  have hb : Below w.heap.size w (w.alloc (.cells #[.string p, .int .i64 k, .string d, .int .i64 t, .int .i64 m] 89)) := (Below.refl _ _).alloc (Nat.le_refl _) _
  by_cases h2 : 60 < d.size
  · have F := hide (za E2 h2)
    clear E2 E3 E4 E5 EK
    go_enter Tryz.func125, Tryz.ntmps125
    go_wp2
    go_ret
    exact ⟨za4 (za F).symm, hb⟩
  have t2 : decide ((60 : Int) < (d.size : Int)) = false := by simp; omega
  by_cases h3 : 0 ≤ t ∧ t ≤ 1000000
  rotate_left
  · have F := hide (za E3 h3)
    clear E2 E3 E4 E5 EK
    by_cases h5 : t < 0
    · go_enter Tryz.func125, Tryz.ntmps125
      go_wp2
      go_ret
      exact ⟨za4 (za F).symm, hb⟩
    · have h6 : ¬ t ≤ 1000000 := by omega
      go_enter Tryz.func125, Tryz.ntmps125
      go_wp2
      go_ret
      exact ⟨za4 (za F).symm, hb⟩
  obtain ⟨h5, h6⟩ := h3
  by_cases h4 : 0 ≤ m ∧ m ≤ 8
  rotate_left
  · have F := hide (za E4 h4)
    clear E2 E3 E4 E5 EK
    by_cases h7 : m < 0
    · go_enter Tryz.func125, Tryz.ntmps125
      go_wp2
      go_ret
      exact ⟨za4 (za F).symm, hb⟩
    · have h8 : ¬ m ≤ 8 := by omega
      go_enter Tryz.func125, Tryz.ntmps125
      go_wp2
      go_ret
      exact ⟨za4 (za F).symm, hb⟩
  obtain ⟨h7, h8⟩ := h4
  have F := hide (za E5 (by omega) ⟨h5, h6⟩ ⟨h7, h8⟩)
  clear E2 E3 E4 E5
  go_enter Tryz.func125, Tryz.ntmps125
  go_wp2_with fail
  refine (za EK _).mono ?_
  rintro e w2 ⟨rfl, b2⟩
  have b3 := hb.trans (b2.mono hb.size)
  clear hb b2
  go_wp2
  go_ret
  exact ⟨za4 (za F).symm, b3⟩
set_option maxRecDepth 100000 in
set_option maxHeartbeats 2000000 in
theorem zg5 (n : Pl.Nd) (w : World) (hp : n.path.size ≤ 1048576) (hd : n.data.size ≤ 1048576) :
    Calls Tryz.prog 106 #[n.val] w fun e w' => e = .returned (.bool (Pl.zb6 n)) ∧ Below w.heap.size w w' := by
  have E0 := hide (@Pl.node_root n)
  have E1 := hide (@Pl.node_path n)
  have E5 := hide (@Pl.node_cont n)
  have EK := hide (fun W => content_any n W hd)
  generalize Pl.zb6 n = R at E0 E1 E5 ⊢
  generalize Pl.zv7 n = R2 at E5 EK
  obtain ⟨p, k, d, t, m⟩ := n
  simp only at hp hd E0 E1 E5
  simp only [Pl.Nd.val] at EK ⊢
  have hr := hide (fun W => WPathI.zf4 p W hp)
  generalize Pl.za5 p = r at hr E1 E5
  have hv := Mem.ze0 w [.string p, .int .i64 k, .string d, .int .i64 t, .int .i64 m] 89
  have hb0 : Below w.heap.size w (w.alloc (.cells #[.string p, .int .i64 k, .string d, .int .i64 t, .int .i64 m] 89)) := (Below.refl _ _).alloc (Nat.le_refl _) _
  by_cases h0 : p.size = 0
  · have E := hide (za E0 h0)
    have t0 : p.toList.isEmpty = true := by rw [Pl.ze]; simpa [Pl.zj1] using h0
    clear E0 E1 E5 EK hv
    go_enter Tryz.func106, Tryz.ntmps106
    go_wp2
    go_ret
    exact ⟨za4 (za E).symm, hb0⟩
  have t0 : p.toList.isEmpty = false := by rw [Pl.ze]; simpa [Pl.zj1] using h0
  cases r
  · have E := hide (za E1 rfl)
    clear E0 E1 E5 EK
    go_enter Tryz.func106, Tryz.ntmps106
    go_wp2_with fail
    refine (za hr _).mono ?_
    rintro e w1 ⟨rfl, b1⟩
    have b2 := hb0.trans (b1.mono hb0.size)
    clear hv hb0 b1
    go_wp2
    go_ret
    exact ⟨za4 (za E).symm, b2⟩
  have F := hide (za E5 h0 rfl)
  clear E0 E1 E5
  go_enter Tryz.func106, Tryz.ntmps106
  go_wp2_with fail
  refine (za hr _).mono ?_
  rintro e w1 ⟨rfl, b1⟩
  have hb := hb0.trans (b1.mono hb0.size)
  obtain ⟨-, hc⟩ := Mem.zg9 hv b1
  have c0 := hc 0 _ rfl
  have c1 := hc 1 _ rfl
  have c2 := hc 2 _ rfl
  have c3 := hc 3 _ rfl
  have c4 := hc 4 _ rfl
  clear hv hb0 b1 hc hr
  go_wp2_with fail
  refine (za EK _).mono ?_
  rintro e w2 ⟨rfl, b2⟩
  have b3 := hb.trans (b2.mono hb.size)
  clear hb b2
  go_wp2
  go_ret
  exact ⟨za4 (za F).symm, b3⟩
end WNode
end Go.Proofs.YtfdbokipgofcdaaGreatDoor

namespace Go.Proofs.YtfdbokipgofcdaaGreatDoor
open Go.RowKit
namespace WUnder
set_option maxRecDepth 100000 in
theorem both_any (a b : ByteArray) (w : World) (ha : a.size ≤ 1048576) (hb : b.size ≤ 1048576) :
  Calls Tryz.prog 126 #[.string a, .string b] w fun e w' => ∃ v1 v2 m, e = .returned (.tuple #[v1, v2, .bool (Pl.za5 a && Pl.za5 b)]) ∧ w.heap.size ≤ m ∧
   w'.ownsRow w.heap.size 9 1 v1 (Pl.zc8 a).length ((Pl.zc8 a).map Value.string) ∧ (∀ k, v1.ownBlock = some k → k < m) ∧
   w'.ownsRow m 9 1 v2 (Pl.zc8 b).length ((Pl.zc8 b).map Value.string) ∧ Below w.heap.size w w' := by
 have hn1 := hide (fun W => yl0.any a W ha)
 have hn2 := hide (fun W => yl0.any b W hb)
 generalize Pl.za5 a = r1 at hn1 ⊢
 generalize Pl.za5 b = r2 at hn2 ⊢
 generalize Pl.zc8 a = A at hn1 ⊢
 generalize Pl.zc8 b = B at hn2 ⊢
 cases r1 <;> cases r2
 all_goals
  go_enter Tryz.func126, Tryz.ntmps126
  go_wp2_with fail
  refine (za hn1 _).mono ?_
  rintro e w1 ⟨v1, rfl, hown1, hb1⟩
  have HO1 := hide hown1
  clear hown1
  go_wp2_with fail
  refine (za hn2 _).mono ?_
  rintro e w2 ⟨v2, rfl, hown2, hb2⟩
  have HO2 := hide hown2
  clear hown2
  have H : Hid (∃ m, w.heap.size ≤ m ∧ w2.ownsRow w.heap.size 9 1 v1 A.length (A.map Value.string) ∧ (∀ k, v1.ownBlock = some k → k < m) ∧
    w2.ownsRow m 9 1 v2 B.length (B.map Value.string) ∧ Below w.heap.size w w2) :=
   ⟨w1.heap.size, hb1.size, Mem.zm7 (za HO1) hb2, fun k hk => ((za HO1).lt k hk).2, za HO2, hb1.trans (hb2.mono hb1.size)⟩
  clear hb1 hb2 HO1 HO2
  go_wp2
  go_ret3
  obtain ⟨m, h1, h2, h3, h4, h5⟩ := H.out
  exact ⟨v1, v2, m, rfl, h1, h2, h3, h4, h5⟩
end WUnder
end Go.Proofs.YtfdbokipgofcdaaGreatDoor

namespace Go.Proofs.YtfdbokipgofcdaaGreatDoor
open Go.RowKit
namespace WLess
set_option maxRecDepth 100000 in
set_option maxHeartbeats 400000 in
theorem ahead_any (v u : Value) (A B : List ByteArray) (w : World) (hA : A.length ≤ 1000) (hB : B.length ≤ 1000) (hv : Mem.zs3 w v A) (hu : Mem.zs3 w u B) :
  Calls Tryz.prog 127 #[v, u] w fun e w' => e = .returned (.bool (Pl.za9 A B)) ∧ Below w.heap.size w w' := by
 have HE : Hid (∀ k, k = A.length ∧ k ≤ B.length ∨ k = B.length ∧ k ≤ A.length → Pl.za9 (A.drop k) (B.drop k) = decide (A.length < B.length)) := fun k h => Pl.less_end h
 by_cases h0 : A = [] ∨ B = []
 ·have E : Hid (Pl.za9 A B = decide (A.length < B.length)) := by
   show _ = _
   have := HE.out 0 (by rcases h0 with rfl | rfl <;> simp)
   simpa using this
  obtain ⟨va, vc, rfl⟩ := Mem.ya6 hv
  obtain ⟨ua, uc, rfl⟩ := Mem.ya6 hu
  clear hv hu HE
  rcases h0 with rfl | rfl
  ·have t0 : (([] : List ByteArray).length : Int) ≤ (B.length : Int) := by simp
   go_enter Tryz.func127, Tryz.ntmps127
   go_wp2
   go_loop [11] (fun i => i = .int .i64 0) (fun _ => 0)
   case atStart => rfl
   case round =>
    subst hrel
    go_wp2
    go_ret
    exact ⟨za4 (by rw [E.out]; simp), Below.refl _ _⟩
  ·by_cases hA0 : A = []
   ·subst hA0
    go_enter Tryz.func127, Tryz.ntmps127
    go_wp2
    go_loop [11] (fun i => i = .int .i64 0) (fun _ => 0)
    case atStart => rfl
    case round =>
     subst hrel
     go_wp2
     go_ret
     exact ⟨za4 (by rw [E.out]; simp), Below.refl _ _⟩
   ·have hp : 0 < A.length := List.length_pos_iff.2 hA0
    have t0 : ¬ (A.length : Int) ≤ 0 := by omega
    have t1 : ¬ (A.length : Int) < 0 := by omega
    have t2 : (0 : Int) < (A.length : Int) := by omega
    go_enter Tryz.func127, Tryz.ntmps127
    go_wp2
    go_loop [11] (fun i => i = .int .i64 0) (fun _ => 0)
    case atStart => rfl
    case round =>
     subst hrel
     go_wp2
     go_ret
     exact ⟨za4 (by rw [E.out]; simp), Below.refl _ _⟩
 ·rcases hu with ⟨_, rfl⟩ | ⟨b, o, cap, rfl, hb, hcb⟩
  ·simp at h0
  rcases hv with ⟨_, rfl⟩ | ⟨b', o', cap', rfl, hb', hca⟩
  ·simp at h0
  have HA := hide hca
  have HB := hide hcb
  clear hca hcb h0
  have HS : Hid (Pl.za9 A B = Pl.za9 (A.drop 0) (B.drop 0)) := rfl
  have HT : Hid (∀ k a b, A[k]? = some a → B[k]? = some b → a = b → Pl.za9 (A.drop k) (B.drop k) = Pl.za9 (A.drop (k + 1)) (B.drop (k + 1))) := fun k a b h1 h2 h3 => Pl.less_same h1 h2 h3
  have HF : Hid (∀ k a b, A[k]? = some a → B[k]? = some b → a ≠ b → Pl.za9 (A.drop k) (B.drop k) = Op.bytesLess a.toList b.toList) := fun k a b h1 h2 h3 => Pl.yv2 h1 h2 h3
  generalize Pl.za9 A B = R at HS ⊢
  by_cases hAB : A.length ≤ B.length
  ·have t0 : (A.length : Int) ≤ (B.length : Int) := by omega
   go_enter Tryz.func127, Tryz.ntmps127
   go_wp2
   go_loopw [11] (fun i wr => ∃ k : Nat, k ≤ A.length ∧ i = .int .i64 (k : Int) ∧ Below w.heap.size w wr ∧ Hid (R = Pl.za9 (A.drop k) (B.drop k))) (fun i _ => A.length - (intOf i).toNat)
   case atStart => exact ⟨0, Nat.zero_le _, rfl, Below.refl _ _, HS⟩
   case round =>
    obtain ⟨k, hk, rfl, hbel, HR⟩ := hrel
    by_cases hlt : k < A.length
    ·obtain ⟨y, hy⟩ : ∃ y, B[k]? = some y := ⟨_, List.getElem?_eq_getElem (by omega)⟩
     obtain ⟨x, hx⟩ : ∃ x, A[k]? = some x := ⟨_, List.getElem?_eq_getElem (by omega)⟩
     have hc1 : wr.cell? ⟨b, o + k, none⟩ = some (.string y) := (hbel.cell (p := ⟨b, o + k, none⟩) hb).trans (HB.out k y hy)
     have hc2 : wr.cell? ⟨b', o' + k, none⟩ = some (.string x) := (hbel.cell (p := ⟨b', o' + k, none⟩) hb').trans (HA.out k x hx)
     have u1 : (k : Int) < (A.length : Int) := by omega
     have u2 : (k : Int) < (B.length : Int) := by omega
     have u3 : (0 : Int) ≤ (k : Int) := by omega
     by_cases hxy : x = y
     ·have t2 := Pl.yh8 hxy
      have HR2 : Hid (R = Pl.za9 (A.drop (k + 1)) (B.drop (k + 1))) := HR.out.trans (HT.out k x y hx hy hxy)
      clear hx hy HR hxy
      go_wp2
      go_quiet (fail)
      go_wp2
      go_roundw
      case rel => exact ⟨k + 1, by omega, by go_num, Mem.below_drewN hbel _, HR2⟩
      case measure => simp [intOf]; omega
     ·have t2 := Pl.ya0 hxy
      have E : Hid (R = Op.bytesLess x.toList y.toList) := HR.out.trans (HF.out k x y hx hy hxy)
      clear hx hy HR hxy
      go_wp2
      go_quiet (fail)
      go_wp2
      go_quiet (fail)
      go_wp2
      go_ret
      exact ⟨za4 E.out.symm, Mem.below_drewN (Mem.below_drewN hbel _) _⟩
    ·obtain rfl : k = A.length := by omega
     have E : Hid (R = decide (A.length < B.length)) := HR.out.trans (HE.out _ (by omega))
     clear HR
     go_wp2
     go_ret
     exact ⟨za4 (by rw [E.out]), hbel⟩
  ·have t0 : ¬ (A.length : Int) ≤ (B.length : Int) := by omega
   have t9 : (B.length : Int) < (A.length : Int) := by omega
   go_enter Tryz.func127, Tryz.ntmps127
   go_wp2
   go_loopw [11] (fun i wr => ∃ k : Nat, k ≤ B.length ∧ i = .int .i64 (k : Int) ∧ Below w.heap.size w wr ∧ Hid (R = Pl.za9 (A.drop k) (B.drop k))) (fun i _ => B.length - (intOf i).toNat)
   case atStart => exact ⟨0, Nat.zero_le _, rfl, Below.refl _ _, HS⟩
   case round =>
    obtain ⟨k, hk, rfl, hbel, HR⟩ := hrel
    by_cases hlt : k < B.length
    ·obtain ⟨y, hy⟩ : ∃ y, B[k]? = some y := ⟨_, List.getElem?_eq_getElem (by omega)⟩
     obtain ⟨x, hx⟩ : ∃ x, A[k]? = some x := ⟨_, List.getElem?_eq_getElem (by omega)⟩
     have hc1 : wr.cell? ⟨b, o + k, none⟩ = some (.string y) := (hbel.cell (p := ⟨b, o + k, none⟩) hb).trans (HB.out k y hy)
     have hc2 : wr.cell? ⟨b', o' + k, none⟩ = some (.string x) := (hbel.cell (p := ⟨b', o' + k, none⟩) hb').trans (HA.out k x hx)
     have u1 : (k : Int) < (A.length : Int) := by omega
     have u2 : (k : Int) < (B.length : Int) := by omega
     have u3 : (0 : Int) ≤ (k : Int) := by omega
     by_cases hxy : x = y
     ·have t2 := Pl.yh8 hxy
      have HR2 : Hid (R = Pl.za9 (A.drop (k + 1)) (B.drop (k + 1))) := HR.out.trans (HT.out k x y hx hy hxy)
      clear hx hy HR hxy
      go_wp2
      go_quiet (fail)
      go_wp2
      go_roundw
      case rel => exact ⟨k + 1, by omega, by go_num, Mem.below_drewN hbel _, HR2⟩
      case measure => simp [intOf]; omega
     ·have t2 := Pl.ya0 hxy
      have E : Hid (R = Op.bytesLess x.toList y.toList) := HR.out.trans (HF.out k x y hx hy hxy)
      clear hx hy HR hxy
      go_wp2
      go_quiet (fail)
      go_wp2
      go_quiet (fail)
      go_wp2
      go_ret
      exact ⟨za4 E.out.symm, Mem.below_drewN (Mem.below_drewN hbel _) _⟩
    ·obtain rfl : k = B.length := by omega
     have E : Hid (R = decide (A.length < B.length)) := HR.out.trans (HE.out _ (by omega))
     clear HR
     go_wp2
     go_ret
     exact ⟨za4 (by rw [E.out]), hbel⟩

set_option maxRecDepth 100000 in
theorem less_any (p t : ByteArray) (w : World) (hp : p.size ≤ 1048576) (ht : t.size ≤ 1048576) :
  Calls Tryz.prog 107 #[.string p, .string t] w fun e w' => e = .returned (.bool (Pl.za5 p && Pl.za5 t && Pl.za9 (Pl.zc8 p) (Pl.zc8 t))) ∧ Below w.heap.size w w' := by
 have hn := hide (fun W => WUnder.both_any p t W hp ht)
 have hA := hide (Pl.zp8 p)
 have hB := hide (Pl.zp8 t)
 generalize (Pl.za5 p && Pl.za5 t) = r at hn ⊢
 generalize Pl.zc8 p = A at hn hA ⊢
 generalize Pl.zc8 t = B at hn hB ⊢
 cases r
 ·go_enter Tryz.func107, Tryz.ntmps107
  go_wp2_with fail
  refine (za hn _).mono ?_
  rintro e w1 ⟨v1, v2, m, rfl, -, -, -, -, hb⟩
  go_wp2
  go_ret
  exact ⟨rfl, hb⟩
 ·go_enter Tryz.func107, Tryz.ntmps107
  go_wp2_with fail
  refine (za hn _).mono ?_
  rintro e w1 ⟨v1, v2, m, rfl, h1, h2, h3, h4, hb⟩
  have i1 := hide (Mem.zx8 h2)
  have i2 := hide (Mem.zx8 h4)
  clear h2 h4 h3 hn
  go_wp2_with fail
  refine (ahead_any _ _ A B _ (by have := (za hA).2; omega) (by have := (za hB).2; omega) (za i1) (za i2)).mono ?_
  rintro e w2 ⟨rfl, hb2⟩
  have hb3 := hb.trans (hb2.mono hb.size)
  generalize hr : Pl.za9 A B = r2
  have HR := hide hr
  clear hr hb hb2
  go_wp2
  go_ret
  exact ⟨by rw [za HR]; rfl, hb3⟩
end WLess
end Go.Proofs.YtfdbokipgofcdaaGreatDoor

namespace Go.Proofs.YtfdbokipgofcdaaGreatDoor
open Go.RowKit Go.Maps
namespace MapN
def key (p : ByteArray) : Lit := .string p.data.toList
def dat (n : Pl.Nd) : DataW Unit := .agg [.lit (.string n.path.data.toList), .lit (.int .i64 n.kind), .lit (.string n.data.data.toList), .lit (.int .i64 n.time), .lit (.int .i64 n.mark)]
theorem yk2 {a b : Pl.Nd} (h : dat a = dat b) : a = b := by
 obtain ⟨p, k, d, t, m⟩ := a
 obtain ⟨p', k', d', t', m'⟩ := b
 simp only [dat, DataW.agg.injEq, List.cons.injEq, DataW.lit.injEq, Lit.string.injEq, Lit.int.injEq, and_true, true_and] at h
 obtain ⟨h1, h2, h3, h4, h5⟩ := h
 have e1 : p = p' := Pl.zh7 h1
 have e2 : d = d' := Pl.zh7 h3
 subst e1 e2 h2 h4 h5
 rfl
def elem : Value → Option (DataW Unit × List MemPlace)
 | .agg cs => match cs.toList with
  | [.string p, .int .i64 k, .string d, .int .i64 t, .int .i64 m] => some (dat ⟨p, k, d, t, m⟩, [])
  | _ => none
 | _ => none
theorem yk9 (n : Pl.Nd) : elem n.val = some (dat n, []) := rfl
theorem yo4 {v : Value} {d : DataW Unit} {ps : List MemPlace} (h : elem v = some (d, ps)) : ∃ n : Pl.Nd, v = n.val ∧ d = dat n := by
 unfold elem at h
 split at h
 ·rename_i cs
  split at h
  ·rename_i p k d' t m hcs
   simp only [Option.some.injEq, Prod.mk.injEq] at h
   refine ⟨⟨p, k, d', t, m⟩, ?_, h.1.symm⟩
   rw [Pl.Nd.val, show cs = cs.toList.toArray by simp, hcs]
  ·cases h
 ·cases h
def mapOf (C : List Pl.Nd) : DataW Unit := C.foldl (fun D n => D.put (key n.path) (dat n)) (.map [])
theorem mapOf_snoc (C : List Pl.Nd) (n : Pl.Nd) : mapOf (C ++ [n]) = (mapOf C).put (key n.path) (dat n) := by simp [mapOf, List.foldl_append]
theorem yh9 (p : ByteArray) : WideAt.IsKeyLit (key p) := by simp [key, WideAt.IsKeyLit]
theorem yk7 {a b : ByteArray} (h : a ≠ b) : key a ≠ key b := fun e => h (Pl.zh7 (Lit.string.inj e))
theorem isMap_fold : ∀ (C : List Pl.Nd) (D : DataW Unit), IsMap D → IsMap (C.foldl (fun D n => D.put (key n.path) (dat n)) D) := by
 intro C
 induction C with
 | nil => intro D h; exact h
 | cons n C ih => intro D h; exact ih _ (h.put _ _)
theorem ys1 (C : List Pl.Nd) : IsMap (mapOf C) := isMap_fold C _ isMap_empty
theorem ym1 (p : ByteArray) : ∀ (C : List Pl.Nd) (D : DataW Unit), (∀ n ∈ C, n.path ≠ p) → Maps.has (C.foldl (fun D n => D.put (key n.path) (dat n)) D) (key p) = Maps.has D (key p) ∧ ∀ z, (C.foldl (fun D n => D.put (key n.path) (dat n)) D).atKey (key p) z = D.atKey (key p) z := by
 intro C
 induction C with
 | nil => intro D _; exact ⟨rfl, fun _ => rfl⟩
 | cons n C ih =>
  intro D h
  have h1 : key p ≠ key n.path := yk7 (fun e => h n List.mem_cons_self e.symm)
  obtain ⟨i1, i2⟩ := ih (D.put (key n.path) (dat n)) (fun m hm => h m (List.mem_cons_of_mem _ hm))
  refine ⟨?_, fun z => ?_⟩
  ·show Maps.has (C.foldl _ (D.put (key n.path) (dat n))) (key p) = _
   rw [i1, has_put_other h1]
  ·show (C.foldl _ (D.put (key n.path) (dat n))).atKey (key p) z = _
   rw [i2, atKey_put_other h1]
theorem has_no {C : List Pl.Nd} {p : ByteArray} (h : ∀ n ∈ C, n.path ≠ p) : Maps.has (mapOf C) (key p) = false := by
 rw [mapOf, (ym1 p C _ h).1]; rfl
theorem at_yes {C : List Pl.Nd} {n : Pl.Nd} (hC : C.Pairwise (fun a b => a.path ≠ b.path)) (hn : n ∈ C) : Maps.has (mapOf C) (key n.path) = true ∧ ∀ z, (mapOf C).atKey (key n.path) z = dat n := by
 obtain ⟨A, B, rfl⟩ := List.append_of_mem hn
 rw [List.pairwise_append] at hC
 have h2 := (List.pairwise_cons.1 hC.2.1).1
 have e : mapOf (A ++ n :: B) = B.foldl (fun D n => D.put (key n.path) (dat n)) ((mapOf A).put (key n.path) (dat n)) := by simp [mapOf, List.foldl_append]
 obtain ⟨i1, i2⟩ := ym1 n.path B ((mapOf A).put (key n.path) (dat n)) (fun m hm e => h2 m hm e.symm)
 rw [e]
 exact ⟨by rw [i1, has_put_same (ys1 A) (yh9 _)], fun z => by rw [i2, atKey_put_same (ys1 A) (yh9 _)]⟩
theorem law : Keyed Tryz.prog 9 := string_keyed Tryz.underlying9
theorem zi1 (w : World) : (zeroValue 89).run Tryz.prog w = .ok (Pl.Nd.val ⟨⟨#[]⟩, 0, ⟨#[]⟩, 0, 0⟩) w := by kernel_rfl
theorem yl4 {p : ByteArray} (h : p.size ≤ maxLen) : keyOf Tryz.prog 9 (.string p) = some (key p) := WideMaps.keyOf_string_mk Tryz.underlying9 h
end MapN
end Go.Proofs.YtfdbokipgofcdaaGreatDoor

namespace Go.Proofs.YtfdbokipgofcdaaGreatDoor
open Go.RowKit
namespace WJoin
theorem Tryz.one8 (w : World) : (sizeOf 5).run Tryz.prog w = .ok 1 w := by kernel_rfl
theorem Tryz.info8j : (Tryz.prog.info? 5).map (fun i => (i.zero, i.size, i.bytes)) = some (some (.int .u8 0), 1, 1) := by kernel_rfl

set_option maxRecDepth 100000 in
set_option maxHeartbeats 400000 in
theorem any (b o cap : Nat) (ts : List ByteArray) (w : World) (hn : ts.length ≤ 1000000) (ht : Pl.tot ts ≤ 1000000000)
  (hcell : ∀ j t, ts[j]? = some t → w.cell? ⟨b, o + j, none⟩ = some (.string t)) (hb : b < w.heap.size) :
  Calls Tryz.prog 36 #[.slice (some ⟨b, o, none⟩) ts.length cap] w fun e w' => e = .returned (.string ⟨(Pl.cat ts).toArray⟩) ∧ Below w.heap.size w w' := by
 have HC := hide hcell
 clear hcell
 go_enter Tryz.func36, Tryz.ntmps36
 go_wp2
 go_loop [3, 12] (fun n i => ∃ k : Nat, k ≤ ts.length ∧ i = .int .i64 k ∧ n = .int .i64 (Pl.tot (ts.take k) : Nat)) (fun _ i => ts.length - (intOf i).toNat)
 case atStart => exact ⟨0, Nat.zero_le _, rfl, rfl⟩
 case round =>
  obtain ⟨k, hk, rfl, rfl⟩ := hrel
  by_cases hlt : k < ts.length
  ·obtain ⟨t, hkt⟩ : ∃ t, ts[k]? = some t := ⟨_, List.getElem?_eq_getElem hlt⟩
   have hc := za HC k t hkt
   have H1 := hide (Pl.tot_snoc ts k t hkt)
   have h1 := Pl.tot_le ts (k + 1)
   have h2 : Pl.tot (ts.take k) + t.size ≤ 1000000000 := by have := za H1; omega
   clear hkt h1
   go_wp2
   go_round
   case rel => exact ⟨k + 1, by omega, by go_num, by rw [za H1]; go_num⟩
   case measure => simp [intOf]; omega
  ·have HE : Hid (Pl.tot (ts.take k) = Pl.tot ts) := by
    show _ = _
    rw [List.take_of_length_le (by omega)]
   have hmk := Mem.make_bytes (P := Tryz.prog) Tryz.underlying22 Tryz.info8j (Pl.tot ts) ht w
   rw [HE.out]
   go_wp2
   go_loopw [7, 25] (fun p i wr => ∃ (k : Nat) (cur : Array Value), k ≤ ts.length ∧ i = .int .i64 k ∧ p = .int .i64 (Pl.tot (ts.take k) : Nat) ∧ wr.heap[w.heap.size]? = some (.cells cur 5 (0, 0)) ∧ cur.size = Pl.tot ts ∧
     Hid (cur.toList.take (Pl.tot (ts.take k)) = (Pl.cat (ts.take k)).map Pl.ze6) ∧ Below w.heap.size w wr) (fun _ i _ => ts.length - (intOf i).toNat)
   case atStart => exact ⟨0, Mem.zeros (Pl.tot ts), Nat.zero_le _, rfl, rfl, heap_alloc_new w _, Mem.zeros_size _, rfl, (Below.refl _ _).alloc (Nat.le_refl _) _⟩
   case round =>
    obtain ⟨k, cur, hk, rfl, rfl, hrow, hcs, HP, hbel⟩ := hrel
    by_cases hlt : k < ts.length
    ·obtain ⟨t, hkt⟩ : ∃ t, ts[k]? = some t := ⟨_, List.getElem?_eq_getElem hlt⟩
     have hc : wr.cell? ⟨b, o + k, none⟩ = some (.string t) := (hbel.cell (p := ⟨b, o + k, none⟩) hb).trans (za HC k t hkt)
     have H1 := hide (Pl.tot_snoc ts k t hkt)
     have h1 := Pl.tot_le ts (k + 1)
     have h2 : Pl.tot (ts.take k) + t.size ≤ Pl.tot ts := by have := za H1; omega
     have HS := hide (Pl.part_step hkt HP.out)
     obtain ⟨D, w2, hsl, hcp, hrow2, hbel2⟩ := Mem.copy_on (P := Tryz.prog) (sT := 9) Tryz.underlying22 Tryz.one8 wr w.heap.size (Pl.tot (ts.take k)) (Pl.tot ts) cur hrow hcs t h2
     have HROW2 := hide hrow2
     have HB2 := hide (hbel.trans hbel2)
     have hsz : Hid ((cur.toList.take (Pl.tot (ts.take k)) ++ t.data.toList.map Pl.ze6 ++ cur.toList.drop (Pl.tot (ts.take k) + t.size)).toArray.size = Pl.tot ts) := by
      show _ = _
      have : t.data.size = t.size := rfl
      simp [this]
      omega
     clear hkt h1 hrow hrow2 hbel2 hbel
     go_wp2
     go_roundw
     case rel => exact ⟨k + 1, _, by omega, by go_num, by rw [za H1]; go_num, HROW2, hsz, HS, HB2⟩
     case measure => simp [intOf]; omega
    ·have HE2 : Hid (Pl.cat (ts.take k) = Pl.cat ts ∧ Pl.tot (ts.take k) = Pl.tot ts) := by
      show _ ∧ _
      rw [List.take_of_length_le (by omega)]
      exact ⟨rfl, rfl⟩
     have hp : cur.toList.take (Pl.tot ts) = (Pl.cat ts).map Pl.ze6 := by have := HP.out; rwa [HE2.out.1, HE2.out.2] at this
     have hcv := Mem.yn7 (P := Tryz.prog) (cap := Pl.tot ts) Tryz.underlying22 Tryz.underlying5 Tryz.underlying9 (Pl.cat ts) (Pl.ye4 ts) hrow hp
     clear hp hrow
     go_wp2
     go_ret
     exact ⟨rfl, hbel⟩
end WJoin
end Go.Proofs.YtfdbokipgofcdaaGreatDoor

namespace Go.Proofs.YtfdbokipgofcdaaGreatDoor
open Go.RowKit
namespace Pl
def zd7 (ts : List ByteArray) : Nat → List ByteArray
 | 0 => []
 | k + 1 => zd7 ts k ++ (if k = 0 then [] else [⟨#[47]⟩]) ++ [ts.getD k ⟨#[]⟩]
theorem glueL_snoc (A : List (List UInt8)) (a : List UInt8) : zi2 (A ++ [a]) = zi2 A ++ (if A = [] then [] else [47]) ++ a := by
 by_cases h : A = []
 ·subst h; rfl
 ·rw [yg7 h (by simp), if_neg h]; simp [zi2]
theorem yu1 (A B : List ByteArray) : cat (A ++ B) = cat A ++ cat B := by simp [cat]
theorem parts_cat (ts : List ByteArray) : ∀ k, k ≤ ts.length → cat (zd7 ts k) = zi2 ((ts.take k).map by_) := by
 intro k
 induction k with
 | zero => intro _; rfl
 | succ k ih =>
  intro hk
  have hlt : k < ts.length := by omega
  rw [zd7, yu1, yu1, ih (by omega), List.take_add_one, List.getElem?_eq_getElem hlt, Option.toList_some, List.map_append, List.map_cons, List.map_nil, glueL_snoc, cat_one]
  have h1 : ts.getD k ⟨#[]⟩ = ts[k] := by simp [List.getD_eq_getElem?_getD, List.getElem?_eq_getElem hlt]
  rw [h1]
  have h2 : cat (if k = 0 then [] else [(⟨#[47]⟩ : ByteArray)]) = if (ts.take k).map by_ = [] then [] else [47] := by
   by_cases h0 : k = 0
   ·subst h0; rfl
   ·rw [if_neg h0, if_neg (by simp; exact ⟨h0, by intro e; subst e; simp at hlt⟩)]; rfl
  rw [h2]; rfl
theorem parts_glue (ts : List ByteArray) : (⟨(cat (zd7 ts ts.length)).toArray⟩ : ByteArray) = glue ts := by
 rw [parts_cat ts _ (Nat.le_refl _), List.take_length]; rfl
theorem yr8 (ts : List ByteArray) : tot (zd7 ts ts.length) = (glue ts).size := by
 rw [← ye4, parts_cat ts _ (Nat.le_refl _), List.take_length, ← zu3, zc9]
theorem parts_length (ts : List ByteArray) : ∀ k, (zd7 ts k).length ≤ 2 * k := by
 intro k
 induction k with
 | zero => simp [zd7]
 | succ k ih =>
  rw [zd7]
  by_cases h : k = 0
  ·simp [h, zd7]
  ·simp [h]; omega
theorem parts_first {ts : List ByteArray} {t : ByteArray} (ht : ts[0]? = some t) : zd7 ts 1 = zd7 ts 0 ++ [t] := by
 simp [zd7, List.getD_eq_getElem?_getD, ht]
theorem parts_next {ts : List ByteArray} {k : Nat} {t : ByteArray} (hk : k ≠ 0) (ht : ts[k]? = some t) : zd7 ts (k + 1) = (zd7 ts k ++ [⟨#[47]⟩]) ++ [t] := by
 simp [zd7, List.getD_eq_getElem?_getD, ht, hk]
end Pl
namespace yk5
theorem make12 (w : World) : (Instr.makeSlice 50 (.int .i64 0) (.int .i64 12)).run Tryz.prog w = .ok (.slice (some ⟨w.heap.size, 0, none⟩) 0 12) (w.alloc (.cells (madeCells (Value.string ⟨#[]⟩).cells 12) 9)) := by
 obtain ⟨i0, h0, h1, h2, h3⟩ := info_parts yk3.infoS
 have h := run_make (P := Tryz.prog) w 50 9 i0 (.string ⟨#[]⟩) Tryz.underlying50 h0 h1 .i64 .i64 0 12 (by omega) (by omega) (by rw [h3]; omega) (by omega)
 rw [h]; simp [h2]

set_option maxRecDepth 100000 in
set_option maxHeartbeats 400000 in
theorem any (v : Value) (ts : List ByteArray) (w : World) (hn : ts.length ≤ 1000) (hg : (Pl.glue ts).size ≤ 1000000) (hv : Mem.zs3 w v ts) :
  Calls Tryz.prog 149 #[v] w fun e w' => e = .returned (.string (Pl.glue ts)) ∧ Below w.heap.size w w' := by
 obtain ⟨i0, hi, hz0, hz1, hz2⟩ := info_parts yk3.infoS
 have hmk := make12
 have H0 : Hid ((⟨(Pl.cat (Pl.zd7 ts ts.length)).toArray⟩ : ByteArray) = Pl.glue ts) := Pl.parts_glue ts
 have H1 : Hid (Pl.tot (Pl.zd7 ts ts.length) ≤ 1000000000) := by have := Pl.yr8 ts; show _ ≤ _; omega
 by_cases hts : ts = []
 ·subst hts
  have hv2 : ∃ a cap, v = .slice a 0 cap := by
   rcases hv with ⟨rfl, _⟩ | ⟨b, o, cap, rfl, _⟩
   ·exact ⟨_, _, rfl⟩
   ·exact ⟨_, _, rfl⟩
  obtain ⟨a, cap, rfl⟩ := hv2
  go_enter Tryz.func149, Tryz.ntmps149
  go_wp2
  go_loop [3, 9] (fun p i => p = .slice (some ⟨w.heap.size, 0, none⟩) 0 12 ∧ i = .int .i64 0) (fun _ _ => 0)
  case atStart => exact ⟨rfl, rfl⟩
  case round =>
   obtain ⟨rfl, rfl⟩ := hrel
   go_wp2_with fail
   refine (WJoin.any w.heap.size 0 12 [] _ (by simp) (by simp [Pl.tot]) (fun j t h => by simp at h) (by simp)).mono ?_
   rintro e w1 ⟨rfl, hb1⟩
   go_wp2
   go_ret
   exact ⟨rfl, ((Below.refl _ _).alloc (Nat.le_refl _) _).trans (hb1.mono (by simp))⟩
 have hpos : 0 < ts.length := List.length_pos_iff.2 hts
 have HNE : Hid (Pl.zd7 ts ts.length ≠ []) := by
  intro h
  obtain ⟨n, hn⟩ : ∃ n, ts.length = n + 1 := ⟨ts.length - 1, by omega⟩
  rw [hn, Pl.zd7] at h
  simp at h
 rcases hv with ⟨rfl, rfl⟩ | ⟨b, o, cap, rfl, hb, hcell⟩
 ·exact absurd rfl hts
 ·have HC := hide hcell
  clear hcell
  go_enter Tryz.func149, Tryz.ntmps149
  go_wp2
  go_loopw [3, 9] (fun p i wr => ∃ k : Nat, k ≤ ts.length ∧ i = .int .i64 (k : Int) ∧ wr.ownsRow w.heap.size 9 1 p (Pl.zd7 ts k).length ((Pl.zd7 ts k).map Value.string) ∧ Below w.heap.size w wr) (fun _ i _ => ts.length - (intOf i).toNat)
  case atStart => exact ⟨0, Nat.zero_le _, rfl, World.ownsRow_made _ _ 12 (Nat.le_refl _) (by unfold maxLen; omega) (size_madeCells _ _), (Below.refl _ _).alloc (Nat.le_refl _) _⟩
  case round =>
   obtain ⟨k, hk, rfl, hown, hbel⟩ := hrel
   have hb1 := hbel.size
   have hpl := Pl.parts_length ts k
   by_cases hlt : k < ts.length
   ·obtain ⟨t, hkt⟩ : ∃ t, ts[k]? = some t := ⟨_, List.getElem?_eq_getElem hlt⟩
    have hc : wr.cell? ⟨b, o + k, none⟩ = some (.string t) := (hbel.cell (p := ⟨b, o + k, none⟩) hb).trans (za HC k t hkt)
    by_cases h0 : k = 0
    ·have HS : Hid (Pl.zd7 ts (k + 1) = Pl.zd7 ts k ++ [t]) := by subst h0; exact Pl.parts_first hkt
     have hp : ¬ (0 : Int) < (k : Int) := by omega
     clear hkt h0
     go_wp2_with (at_builtin; refine wpList_append_own _ rfl _ _ 50 rfl w.heap.size 9 i0 (.string ⟨#[]⟩) 1 16 Tryz.underlying50 hi hz0 hz1 hz2 rfl (by decide) _ _ _ rfl (hown.alloc _) ⟨wr.heap.size, 0, none⟩ 1 1 [.string t] rfl rfl (Mem.zq5 _ _ _) (Mem.one_str _) (by unfold maxLen; omega) (by omega) (by simp; omega) ?_)
     ·intro v' w2 hown' hgrow _
      have hbel' := Mem.zj6 hbel (Nat.le_refl _) hown hgrow
      have hown2 : Hid (w2.ownsRow w.heap.size 9 1 v' (Pl.zd7 ts (k + 1)).length ((Pl.zd7 ts (k + 1)).map Value.string)) := by
       show World.ownsRow _ _ _ _ _ _ _
       rw [za HS]; simpa using hown'
      clear hgrow hown hbel hown' hc
      go_wp2
      go_roundw
      case rel => exact ⟨k + 1, by omega, by go_num, hown2, hbel'⟩
      case measure => simp [intOf]; omega
    ·have HS := hide (Pl.parts_next h0 hkt)
     have hp : (0 : Int) < (k : Int) := by omega
     clear hkt
     go_wp2_with (at_builtin; refine wpList_append_own _ rfl _ _ 50 rfl w.heap.size 9 i0 (.string ⟨#[]⟩) 1 16 Tryz.underlying50 hi hz0 hz1 hz2 rfl (by decide) _ _ _ rfl (hown.alloc _) ⟨wr.heap.size, 0, none⟩ 1 1 [.string ⟨#[47]⟩] rfl rfl (Mem.zq5 _ _ _) (Mem.one_str _) (by unfold maxLen; omega) (by omega) (by simp; omega) ?_)
     ·intro v1 w1 hown' hgrow _
      have hbel' := Mem.zj6 hbel (Nat.le_refl _) hown hgrow
      have hown1 : w1.ownsRow w.heap.size 9 1 v1 (Pl.zd7 ts k ++ [(⟨#[47]⟩ : ByteArray)]).length ((Pl.zd7 ts k ++ [(⟨#[47]⟩ : ByteArray)]).map Value.string) := by simpa using hown'
      have hb2 := hbel'.size
      have hl2 : (Pl.zd7 ts k ++ [(⟨#[47]⟩ : ByteArray)]).length ≤ 2 * k + 1 := by simp; omega
      clear hgrow hown hbel hown' hc hpl
      go_wp2_with (at_builtin; refine wpList_append_own _ rfl _ _ 50 rfl w.heap.size 9 i0 (.string ⟨#[]⟩) 1 16 Tryz.underlying50 hi hz0 hz1 hz2 rfl (by decide) _ _ _ rfl (hown1.alloc _) ⟨w1.heap.size, 0, none⟩ 1 1 [.string t] rfl rfl (Mem.zq5 _ _ _) (Mem.one_str _) (by unfold maxLen; omega) (by omega) (by simp; omega) ?_)
      ·intro v' w2 hown' hgrow _
       have hbel2 := Mem.zj6 hbel' (Nat.le_refl _) hown1 hgrow
       have hown2 : Hid (w2.ownsRow w.heap.size 9 1 v' (Pl.zd7 ts (k + 1)).length ((Pl.zd7 ts (k + 1)).map Value.string)) := by
        show World.ownsRow _ _ _ _ _ _ _
        rw [za HS]; simpa using hown'
       clear hgrow hown1 hbel' hown'
       go_wp2
       go_roundw
       case rel => exact ⟨k + 1, by omega, by go_num, hown2, hbel2⟩
       case measure => simp [intOf]; omega
   ·obtain rfl : k = ts.length := by omega
    rcases Mem.zx8 hown with ⟨rfl, hnil⟩ | ⟨g, o', cap', rfl, hgl, hcell'⟩
    ·exact absurd hnil HNE.out
    ·have HC' := hide hcell'
     clear hcell' hown
     go_wp2_with fail
     refine (WJoin.any g o' cap' (Pl.zd7 ts ts.length) _ (by omega) H1.out HC'.out hgl).mono ?_
     rintro e w1 ⟨rfl, hb1⟩
     go_wp2
     go_ret
     exact ⟨by rw [H0.out]; rfl, hbel.trans (hb1.mono (by omega))⟩
end yk5
end Go.Proofs.YtfdbokipgofcdaaGreatDoor

namespace Go.Proofs.YtfdbokipgofcdaaGreatDoor
open Go.RowKit
namespace WPathI
set_option maxRecDepth 100000 in
set_option maxHeartbeats 4000000 in
theorem yf0 (s : ByteArray) (w : World) (hs : s.size ≤ 1048576) :
  Calls Tryz.prog 128 #[.string s] w fun e w' => e = .returned (.string (Pl.glue (Pl.zc8 s).dropLast)) ∧ Below w.heap.size w w' := by
 have hn := hide (yl0.any s w hs)
 have hL := hide (Pl.zp8 s)
 generalize Pl.za5 s = r at hn
 generalize Pl.zc8 s = L at hn hL
 go_enter Tryz.func128, Tryz.ntmps128
 go_wp2_with fail
 refine (za hn).mono ?_
 rintro e w1 ⟨v, rfl, hown, hb⟩
 clear hn
 rcases Mem.texts hown with ⟨rfl, rfl⟩ | ⟨g, cap, rfl, hcap, hm, hgb, hgl, hcell⟩
 ·clear hown
  go_wp2_with fail
  refine (yk5.any _ [] _ (by simp) (by decide) (.inl ⟨rfl, rfl⟩)).mono ?_
  rintro e w2 ⟨rfl, hb2⟩
  have hb3 := hb.trans (hb2.mono hb.size)
  clear hb hb2
  go_wp2
  go_ret
  exact ⟨rfl, hb3⟩
 ·clear hown
  have hm2 := hm
  have HC := hide hcell
  clear hcell
  unfold maxLen at hm2
  by_cases h0 : L.length = 0
  ·obtain rfl : L = [] := List.eq_nil_of_length_eq_zero h0
   have m0 : max (-1 : Int) 0 = 0 := by decide
   go_wp2_with fail
   refine (yk5.any _ [] _ (by simp) (by decide) (.inr ⟨g, 0, cap, rfl, hgl, fun j t h => by simp at h⟩)).mono ?_
   rintro e w2 ⟨rfl, hb2⟩
   have hb3 := hb.trans (hb2.mono hb.size)
   clear hb hb2
   go_wp2
   go_ret
   exact ⟨rfl, hb3⟩
  ·have h1 : (0 : Int) ≤ (L.length : Int) - 1 := by omega
   have m1 : max ((L.length : Int) - 1) 0 = (L.length : Int) - 1 := by omega
   have h2 : (L.length : Int) - 1 ≤ (cap : Int) := by omega
   have E := hide (Pl.drop_last L)
   go_wp2_with fail
   try rw [show (max ((L.length : Int) - 1) 0).toNat = L.length - 1 by omega]
   refine (yk5.any _ (L.take (L.length - 1)) _ ?_ (Pl.yw4 (Pl.all_take (za hL).1 _) ?_) (Mem.take_texts hgl (za HC) _ (by omega))).mono ?_
   ·have := (za hL).2; simp; omega
   ·have := (za hL).2; simp; omega
   rintro e w2 ⟨rfl, hb2⟩
   rw [za E]
   have hb3 := hb.trans (hb2.mono hb.size)
   clear hb hb2
   go_wp2
   go_ret
   exact ⟨rfl, hb3⟩
end WPathI
end Go.Proofs.YtfdbokipgofcdaaGreatDoor

