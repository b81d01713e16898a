/- Several texts of one claim in one file: WWords, WName, WNames, WRightI. -/
import Derived.Test.YtpggbphcbcogdaaGreatDoorG06
namespace Go.Proofs.YtpggbphcbcogdaaGreatDoor
section
open Go.RowKit
namespace Pl
theorem get_ge (s : ByteArray) (k : Nat) (h : k < s.size) : s.get! k = s[k] := by
  simp [ByteArray.get!, getElem!_pos, h]; rfl
theorem rune_other (s : ByteArray) (pos : Nat) (h : pos < s.size) (hb : s[pos].toNat ≠ 47) :
    ((Utf8.decode s pos).1 ≠ 47) ∧ 1 ≤ (Utf8.decode s pos).2 ∧ pos + (Utf8.decode s pos).2 ≤ s.size ∧ ∀ j (hj : j < s.size), pos ≤ j → j < pos + (Utf8.decode s pos).2 → s[j].toNat ≠ 47 := by
  by_cases ha : s[pos].toNat < 128
  · rw [decode_ascii s pos h ha]
    refine ⟨hb, Nat.le_refl _, h, fun j hj h1 h2 => ?_⟩
    obtain rfl : j = pos := by simp at h2; omega
    exact hb
  · have hh := decode_high s pos h (by omega)
    refine ⟨by omega, hh.2, ?_⟩
    have hg := get_ge s
    have key : pos + (Utf8.decode s pos).2 ≤ s.size ∧ ∀ k, 1 ≤ k → k < (Utf8.decode s pos).2 → (s.get! (pos + k)).toNat / 64 = 2 := by
      have h0 : s.get! (pos + 0) = s[pos] := hg pos h
      simp only [Utf8.decode, h0, ha, if_false]
      repeat' split
      all_goals simp_all
      all_goals first
        | omega
        | (refine ⟨by omega, fun k h1 h2 => ?_⟩
           rcases (show k = 1 ∨ k = 2 ∨ k = 3 by omega) with rfl | rfl | rfl <;> first | omega | (simp_all; done))
    refine ⟨key.1, fun j hj h1 h2 => ?_⟩
    by_cases he : j = pos
    · subst he; exact hb
    · have := key.2 (j - pos) (by omega) (by omega)
      rw [Nat.add_sub_cancel' h1, hg j hj] at this
      omega
theorem cutF_over {s : ByteArray} {fr : Nat} : ∀ n k, k + n ≤ s.size → (∀ j (hj : j < s.size), k ≤ j → j < k + n → s[j].toNat ≠ 47) → cutF s 47 (s.size - k) fr k = cutF s 47 (s.size - (k + n)) fr (k + n) := by
  intro n
  induction n with
  | zero => intro k _ _; rfl
  | succ n ih =>
    intro k hk h
    have hlt : k < s.size := by omega
    have hf : s.size - k = s.size - (k + 1) + 1 := by omega
    rw [hf, zu hlt (h k hlt (Nat.le_refl _) (by omega)), ih (k + 1) (by omega) (fun j hj h1 h2 => h j hj (by omega) (by omega))]
    have e : k + 1 + n = k + (n + 1) := by omega
    rw [e]
end Pl
namespace Mem
theorem own_iterAt {w : World} {B e size n : Nat} {v : Value} {xs : List Value} {k : Nat} {s : ByteArray} {pos : Nat} (h : w.ownsRow B e size v n xs) (hk : w.heap[k]? = some (.stringIter s pos)) (pos' : Nat) : (w.iterAt k s pos').ownsRow B e size v n xs := by
  refine ⟨h.1, ?_⟩
  rcases h.2 with h0 | ⟨g, cap, cur, hv, hb, hg, rest⟩
  · exact .inl h0
  · refine .inr ⟨g, cap, cur, hv, hb, ?_, rest⟩
    rw [Lib.iterAt_other _ _ _ _ _ (fun e => by subst e; rw [hk] at hg; cases hg)]
    exact hg
theorem own_no_iter {w : World} {B e size n : Nat} {v : Value} {xs : List Value} {k : Nat} {s : ByteArray} {pos : Nat} (h : w.ownsRow B e size v n xs) (hk : w.heap[k]? = some (.stringIter s pos)) : some k ≠ v.ownBlock := by
  rcases h.2 with ⟨rfl, _⟩ | ⟨g, cap, cur, rfl, hb, hg, rest⟩
  · simp [Value.ownBlock]
  · intro e
    simp only [Value.ownBlock, Option.some.injEq] at e
    subst e
    rw [hk] at hg
    cases hg
end Mem
namespace WWords
theorem zk5 : (Tryz.prog.info? 9).map (fun i => (i.zero, i.size, i.bytes)) = some (some (.string ⟨#[]⟩), 1, 16) := by kernel_rfl

set_option maxRecDepth 100000 in
set_option maxHeartbeats 400000 in
theorem any (s : ByteArray) (w : World) (hs : s.size ≤ 1048576) :
    Calls Tryz.prog 53 #[.string s] w fun e w' => ∃ v, e = .returned v ∧
      w'.ownsRow w.heap.size 9 1 v (Pl.cut s 47).length ((Pl.cut s 47).map Value.string) ∧ Below w.heap.size w w' := by
  obtain ⟨i0, hi, hz0, hz1, hz2⟩ := info_parts zk5
  go_enter Tryz.func53, Tryz.ntmps53
  go_wp2
  go_loopw [3, 4] (fun v x wr => ∃ (pos fr : Nat) (L : List ByteArray), pos ≤ s.size ∧ fr ≤ pos ∧ L.length ≤ pos ∧ x = .int .i64 (fr : Int) ∧
      wr.ownsRow w.heap.size 9 1 v L.length (L.map Value.string) ∧ wr.heap[w.heap.size + 1]? = some (.stringIter s pos) ∧ Below w.heap.size w wr ∧ Hid (Pl.cut s 47 = L ++ Pl.cutF s 47 (s.size - pos) fr pos)) (fun _ _ wr => s.size - wr.iterPos (w.heap.size + 1))
  case atStart =>
    refine ⟨0, 0, [], by omega, by omega, by simp, rfl, (World.ownsRow_made _ _ 0 (Nat.le_refl _) (Nat.zero_le _) rfl).alloc _, ?_, ((Below.refl _ _).alloc (Nat.le_refl _) _).alloc (by simp) _, rfl⟩
    have := World.iter_heap (w.alloc (.cells #[] 9)) s 0
    simpa using this
  case round =>
    obtain ⟨pos, fr, L, hk, hfr, hL, rfl, hown, hit, hbel, H⟩ := hrel
    have hb1 := hbel.size
    have hsz : w.heap.size + 1 < wr.heap.size := (Array.getElem?_eq_some_iff.1 hit).1
    have hip : wr.iterPos (w.heap.size + 1) = pos := by simp only [World.iterPos, hit]
    by_cases hlt : pos < s.size
    · by_cases hq : s[pos].toNat = 47
      · have ha : s[pos].toNat < 128 := by omega
        have hnx : ∀ ty, (Instr.next (.pointer (some ⟨w.heap.size + 1, 0, none⟩)) true ty).run Tryz.prog wr = .ok (.tuple #[.bool true, .int .i64 pos, .int .i32 47]) (wr.iterAt (w.heap.size + 1) s (pos + 1)) := fun ty => by
          rw [Lib.run_next_ascii_at wr (w.heap.size + 1) s pos ty hit hlt ha, hq]; rfl
        have hf : s.size - pos = s.size - (pos + 1) + 1 := by omega
        have H2 : Hid (Pl.cut s 47 = (L ++ [s.extract fr pos]) ++ Pl.cutF s 47 (s.size - (pos + 1)) (pos + 1) (pos + 1)) := by
          show _ = _
          rw [H.out, hf, Pl.cutF_hit hlt hq]; simp
        have hown2 := Mem.own_iterAt hown hit (pos + 1)
        have hit2 := Lib.iterAt_heap wr (w.heap.size + 1) s pos (pos + 1) hit
        have hbel2 := Lib.below_iterAt hbel (k := w.heap.size + 1) (by omega) s (pos + 1)
        have hsz2 : Hid ((wr.iterAt (w.heap.size + 1) s (pos + 1)).heap.size = wr.heap.size) := Lib.iterAt_size _ _ _ _
        have hne := Mem.own_no_iter hown2 hit2
        generalize wr.iterAt (w.heap.size + 1) s (pos + 1) = w1 at hnx hown2 hit2 hbel2 hsz2
        have t1 : (0 : Int) ≤ (fr : Int) := by omega
        have t2 : (fr : Int) ≤ (pos : Int) := by omega
        have t3 : (pos : Int) ≤ (s.size : Int) := by omega
        clear H hf hq hown hit hbel ha
        go_wp2_with (at_builtin; refine wpList_append_own _ rfl _ _ 24 rfl w.heap.size 9 i0 (.string ⟨#[]⟩) 1 16 Tryz.underlying24 hi hz0 hz1 hz2 rfl (by decide) _ _ _ rfl (hown2.alloc _) ⟨w1.heap.size, 0, none⟩ 1 1 [.string (s.extract fr pos)] rfl rfl ?c1 ?c2 ?c3 ?c4 ?c5 ?_)
        case c1 => exact Mem.zd0 _ _ _
        case c2 => intro u hu; simp at hu; subst hu; rfl
        case c3 => unfold maxLen; omega
        case c4 => omega
        case c5 => have := hsz2.out; simp; omega
        · intro v' w2 hown' hgrow _
          have hsz2 := hsz2.out
          have hbel' := Mem.ze0 hbel2 (Nat.le_refl _) hown2 hgrow
          have hown3 : w2.ownsRow w.heap.size 9 1 v' (L ++ [s.extract fr pos]).length ((L ++ [s.extract fr pos]).map Value.string) := by simpa using hown'
          have hit3 : w2.heap[w.heap.size + 1]? = some (.stringIter s (pos + 1)) :=
            (hgrow.block (w.heap.size + 1) (by simp; omega) hne).trans ((Below.heap_alloc _ _ _ (by omega)).trans hit2)
          have hip3 : w2.iterPos (w.heap.size + 1) = pos + 1 := by simp only [World.iterPos, hit3]
          clear hgrow hown2 hbel2 hown' hnx hit2
          go_wp2
          go_roundw
          case rel => exact ⟨pos + 1, pos + 1, L ++ [s.extract fr pos], by omega, by omega, by simp; omega, by go_num, hown3, hit3, hbel', H2⟩
          case measure => rw [hip3, hip]; omega
      · obtain ⟨r1, r2, r3, r4⟩ := Pl.rune_other s pos hlt hq
        have hnx : ∀ ty, (Instr.next (.pointer (some ⟨w.heap.size + 1, 0, none⟩)) true ty).run Tryz.prog wr = .ok (.tuple #[.bool true, .int .i64 pos, .int .i32 (Utf8.decode s pos).1]) (wr.iterAt (w.heap.size + 1) s (pos + (Utf8.decode s pos).2)) := fun ty =>
          Lib.run_next_any_at wr (w.heap.size + 1) s pos ty hit hlt
        have H2 : Hid (Pl.cut s 47 = L ++ Pl.cutF s 47 (s.size - (pos + (Utf8.decode s pos).2)) fr (pos + (Utf8.decode s pos).2)) := by
          show _ = _
          rw [H.out, Pl.cutF_over _ pos r3 r4]
        have hown2 := Mem.own_iterAt hown hit (pos + (Utf8.decode s pos).2)
        have hit2 := Lib.iterAt_heap wr (w.heap.size + 1) s pos (pos + (Utf8.decode s pos).2) hit
        have hbel2 := Lib.below_iterAt hbel (k := w.heap.size + 1) (by omega) s (pos + (Utf8.decode s pos).2)
        have hip2 : (wr.iterAt (w.heap.size + 1) s (pos + (Utf8.decode s pos).2)).iterPos (w.heap.size + 1) = pos + (Utf8.decode s pos).2 := by simp only [World.iterPos, hit2]
        have t4 : (((Utf8.decode s pos).1 : Int) == 47) = false := by rw [beq_eq_false_iff_ne]; omega
        generalize hD : (Utf8.decode s pos).2 = n at *
        generalize (Utf8.decode s pos).1 = r at *
        generalize wr.iterAt (w.heap.size + 1) s (pos + n) = w1 at *
        clear H hq hown hit hbel r4 hD r1
        go_wp2
        go_roundw
        case rel => exact ⟨pos + n, fr, L, r3, by omega, by omega, rfl, hown2, hit2, hbel2, H2⟩
        case measure => rw [hip2, hip]; omega
    · obtain rfl : pos = s.size := by omega
      have hnx : ∀ ty, (Instr.next (.pointer (some ⟨w.heap.size + 1, 0, none⟩)) true ty).run Tryz.prog wr = .ok (.tuple #[.bool false]) wr := fun ty => Lib.run_next_end_at wr (w.heap.size + 1) s s.size ty hit hlt
      have H2 : Hid (Pl.cut s 47 = L ++ [s.extract fr s.size]) := by
        show _ = _
        rw [H.out, Nat.sub_self]; rfl
      have t1 : (0 : Int) ≤ (fr : Int) := by omega
      have t2 : (fr : Int) ≤ (s.size : Int) := by omega
      clear H
      go_wp2_with (at_builtin; refine wpList_append_own _ rfl _ _ 24 rfl w.heap.size 9 i0 (.string ⟨#[]⟩) 1 16 Tryz.underlying24 hi hz0 hz1 hz2 rfl (by decide) _ _ _ rfl (hown.alloc _) ⟨wr.heap.size, 0, none⟩ 1 1 [.string (s.extract fr s.size)] rfl rfl ?c1 ?c2 ?c3 ?c4 ?c5 ?_)
      case c1 => exact Mem.zd0 _ _ _
      case c2 => intro u hu; simp at hu; subst hu; rfl
      case c3 => unfold maxLen; omega
      case c4 => omega
      case c5 => simp; omega
      · intro v' w2 hown' hgrow _
        have hbel' := Mem.ze0 hbel (Nat.le_refl _) hown hgrow
        have hown2 : w2.ownsRow w.heap.size 9 1 v' (Pl.cut s 47).length ((Pl.cut s 47).map Value.string) := by rw [H2.out]; simpa using hown'
        clear hgrow hown hbel hown'
        go_wp2
        go_ret
        exact ⟨_, rfl, hown2, hbel'⟩
end WWords
end
section
open Go.RowKit
namespace WName

set_option maxHeartbeats 400000 in
theorem zm4 (s:ByteArray) (w:World) (hs:s.size≤maxLen):
  Calls Tryz.prog 30 #[.string s] w fun e w'=>e= .returned (.bool (Pl.zb4 s))∧w'=w:=by
 unfold maxLen at hs;by_cases h1:s.size<1
 ·have e0:=hide (Pl.zv8 h1);go_enter Tryz.func30,Tryz.ntmps30
  go_wp2
  go_ret
  exact ⟨za0 (za e0).symm,rfl⟩
 by_cases h2:20<s.size
 ·have e0:=hide (Pl.zr7 h2);go_enter Tryz.func30,Tryz.ntmps30
  go_wp2
  go_ret
  exact ⟨za0 (za e0).symm,rfl⟩
 go_enter Tryz.func30,Tryz.ntmps30
 go_wp2
 go_loop [3] (fun i=>∃k:Nat,k≤s.size∧i= .int .i64 k∧Hid (∀j,j<k→Pl.okAt j ((s.data.toList.getD j 0).toNat))) (fun i=>s.size - (intOf i).toNat)
 case atStart=>exact ⟨0,Nat.zero_le _,rfl,fun j hj=>absurd hj (by omega)⟩
 case round=>
  obtain ⟨k,hk,rfl,hok⟩:=hrel;by_cases hlt:k<s.size
  ·by_cases hk0:k=0
   ·subst hk0;have okc:∀n:Nat,Pl.okAt 0 n↔(97≤n∧n≤122):=fun n=>by unfold Pl.okAt;omega
    have OK:=hide okc;clear okc
    rcases Pl.kinds (s[0].toNat:Int) with ⟨a1,a2⟩|⟨a1,a2,a3,a4⟩|⟨a1,a2,a3,a4⟩|⟨a1,a2,a3,a4⟩|⟨a1,a2,a3⟩|⟨a1,a2,a3,a4,a5⟩
    ·go_wp2
     go_round
     case rel=>exact ⟨1,by omega,rfl,Pl.zr2 hok.out hlt ((za OK _).2 (by omega))⟩
     case measure=>simp [intOf];omega
    all_goals
     go_wp2
     go_ret
     exact ⟨za0 (Pl.zo5 0 hlt (by rw [za OK];omega)).symm,rfl⟩
   ·have hkb:((k:Int)==0)=false:=by simp;omega
    have okc:∀n:Nat,Pl.okAt k n↔(97≤n∧n≤122)∨(48≤n∧n≤57)∨n=95:=fun n=>by unfold Pl.okAt;omega
    have OK:=hide okc;clear okc
    rcases Pl.kinds (s[k].toNat:Int) with ⟨a1,a2⟩|⟨a1,a2,a3,a4⟩|⟨a1,a2,a3,a4⟩|⟨a1,a2,a3,a4⟩|⟨a1,a2,a3⟩|⟨a1,a2,a3,a4,a5⟩
    ·go_wp2
     go_round
     case rel=>exact ⟨k+1,by omega,by go_num,Pl.zr2 hok.out hlt ((za OK _).2 (by omega))⟩
     case measure=>simp [intOf];omega
    ·go_wp2
     go_round
     case rel=>exact ⟨k+1,by omega,by go_num,Pl.zr2 hok.out hlt ((za OK _).2 (by omega))⟩
     case measure=>simp [intOf];omega
    ·go_wp2
     go_ret
     exact ⟨za0 (Pl.zo5 k hlt (by rw [za OK];simp at a4;omega)).symm,rfl⟩
    ·go_wp2
     go_round
     case rel=>exact ⟨k+1,by omega,by go_num,Pl.zr2 hok.out hlt ((za OK _).2 (by simp at a4;omega))⟩
     case measure=>simp [intOf];omega
    all_goals
     go_wp2
     go_ret
     exact ⟨za0 (Pl.zo5 k hlt (by rw [za OK];omega)).symm,rfl⟩
  ·have e0:Pl.zb4 s=true:=Pl.zx3 h1 h2 (fun j hj=>hok.out j (by omega));have E0:=hide e0;clear e0;go_wp2
   go_ret
   exact ⟨za0 (za E0).symm,rfl⟩

set_option maxHeartbeats 400000 in
theorem zk6 (s:ByteArray) (w:World) (hs:s.size≤maxLen):
  Calls Tryz.prog 54 #[.string s] w fun e w'=>e= .returned (.bool (Pl.zb4 s))∧w'=w:=by
 unfold maxLen at hs;by_cases h1:s.size<1
 ·have e0:=hide (Pl.zv8 h1);go_enter Tryz.func54,Tryz.ntmps54
  go_wp2
  go_ret
  exact ⟨za0 (za e0).symm,rfl⟩
 by_cases h2:20<s.size
 ·have e0:=hide (Pl.zr7 h2);go_enter Tryz.func54,Tryz.ntmps54
  go_wp2
  go_ret
  exact ⟨za0 (za e0).symm,rfl⟩
 have hp:0<s.size:=by omega
 by_cases hl:97≤(s[0].toNat:Int)∧(s[0].toNat:Int)≤122
 ·obtain ⟨l1,l2⟩:=hl;have H0:Hid (Pl.okAt 0 s[0].toNat):=Or.inl (by omega);go_enter Tryz.func54,Tryz.ntmps54
  go_wp2
  go_loop [21] (fun i=>∃k:Nat,k≤s.size∧i= .int .i64 k∧Hid (∀j,j<k→Pl.okAt j ((s.data.toList.getD j 0).toNat))) (fun i=>s.size - (intOf i).toNat)
  case atStart=>exact ⟨0,Nat.zero_le _,rfl,fun j hj=>absurd hj (by omega)⟩
  case round=>
   obtain ⟨k,hk,rfl,hok⟩:=hrel;by_cases hlt:k<s.size
   ·have hstep:Hid ((97≤s[k].toNat∧s[k].toNat≤122)∨(48≤s[k].toNat∧s[k].toNat≤57)∨s[k].toNat=95→∀j,j<k+1→Pl.okAt j ((s.data.toList.getD j 0).toNat)):=by
     intro ho;refine Pl.zr2 hok.out hlt ?_;by_cases hk0:k=0
     ·subst hk0;exact H0
     ·unfold Pl.okAt;omega
    have hbad:Hid (¬ ((97≤s[k].toNat∧s[k].toNat≤122)∨(48≤s[k].toNat∧s[k].toNat≤57)∨s[k].toNat=95)→Pl.zb4 s=false):=by
     intro hn;exact Pl.zo5 k hlt (by unfold Pl.okAt;omega)
    clear l1 l2 H0 hok
    rcases Pl.kinds (s[k].toNat:Int) with ⟨a1,a2⟩|⟨a1,a2,a3,a4⟩|⟨a1,a2,a3,a4⟩|⟨a1,a2,a3,a4⟩|⟨a1,a2,a3⟩|⟨a1,a2,a3,a4,a5⟩
    ·go_wp2
     go_round
     case rel=>exact ⟨k+1,by omega,by go_num,hstep.out (by omega)⟩
     case measure=>simp [intOf];omega
    ·go_wp2
     go_round
     case rel=>exact ⟨k+1,by omega,by go_num,hstep.out (by omega)⟩
     case measure=>simp [intOf];omega
    ·go_wp2
     go_ret
     exact ⟨za0 (hbad.out (by simp at a4;omega)).symm,rfl⟩
    ·go_wp2
     go_round
     case rel=>exact ⟨k+1,by omega,by go_num,hstep.out (by simp at a4;omega)⟩
     case measure=>simp [intOf];omega
    all_goals
     go_wp2
     go_ret
     exact ⟨za0 (hbad.out (by omega)).symm,rfl⟩
   ·have e0:Pl.zb4 s=true:=Pl.zx3 h1 h2 (fun j hj=>hok.out j (by omega));have E0:=hide e0;clear e0;go_wp2
    go_ret
    exact ⟨za0 (za E0).symm,rfl⟩
 ·have e0:Pl.zb4 s=false:=Pl.zo5 0 hp (by unfold Pl.okAt;omega);have E0:=hide e0;clear e0;by_cases g1:97≤(s[0].toNat:Int)
  ·have g2:¬ (s[0].toNat:Int)≤122:=by omega
   clear hl;go_enter Tryz.func54,Tryz.ntmps54
   go_wp2
   go_ret
   exact ⟨za0 (za E0).symm,rfl⟩
  ·clear hl;go_enter Tryz.func54,Tryz.ntmps54
   go_wp2
   go_ret
   exact ⟨za0 (za E0).symm,rfl⟩
end WName
end
section
open Go.RowKit
namespace zn6
set_option maxRecDepth 100000 in
set_option maxHeartbeats 400000 in
theorem any (s:ByteArray) (w:World) (hs:s.size≤1048576):
  Calls Tryz.prog 38 #[.string s] w fun e w'=>∃v,e= .returned (.tuple #[v, .bool (Pl.za2 s)])∧
   w'.ownsRow w.heap.size 9 1 v (Pl.zb0 s).length ((Pl.zb0 s).map Value.string)∧Below w.heap.size w w':=by
 by_cases h0:s.size=0
 ·have E:=hide (Pl.zi h0).1;have E2:=hide ((Pl.zc0 (Pl.zi h0).1).trans (Pl.zi h0).2);obtain rfl:s=⟨#[]⟩:=by apply ByteArray.ext;exact Array.eq_empty_of_size_eq_zero h0
  go_enter Tryz.func38,Tryz.ntmps38
  go_wp2
  go_ret2
  refine ⟨.slice none 0 0,by rw [za E];rfl,?_,Below.refl _ _⟩;rw [za E2];exact World.ownsRow_nil _ _ _ _
 have t0:s.toList.isEmpty=false:=by
  rw [List.isEmpty_eq_false_iff,ByteArray.toList_eq];intro h;have h1:s.data.toList.length=0:=by rw [h];rfl
  rw [Array.length_toList] at h1;exact h0 h1
 have E1:Hid (Pl.names s=Pl.cut s 47):=if_neg h0;by_cases h8:8000<s.size
 ·have E:=hide (Pl.zs4 (s:=s) (by omega));have E2:=hide (Pl.zp9 (za E));go_enter Tryz.func38,Tryz.ntmps38
  go_wp2
  go_ret2
  refine ⟨.slice none 0 0,by rw [za E];rfl,?_,Below.refl _ _⟩;rw [za E2];exact World.ownsRow_nil _ _ _ _
 have hpos:=Pl.cut_pos s;have hlen:=Pl.cut_length s
 have HSZ:Hid (∀ (k:Nat) t,(Pl.cut s 47)[k]? =some t→t.size≤maxLen):=fun k t ht=>by
  have :=Pl.cut_size ht;unfold maxLen;omega
 have HLONG:Hid (6<(Pl.cut s 47).length→Pl.za2 s=false):=fun h=>by
  rw [Pl.zr0,E1.out];simp;intro _;omega
 have HBAD:Hid (∀ (k:Nat) t,(Pl.cut s 47)[k]? =some t→Pl.zb4 t=false→Pl.za2 s=false):=fun k t ht hb=>Pl.pathB_bad (by rw [E1.out];exact ht) hb
 have HGOOD:Hid ((Pl.cut s 47).length≤6→(∀ (j:Nat) t,(Pl.cut s 47)[j]? =some t→Pl.zb4 t=true)→Pl.za2 s=true∧Pl.zb0 s=Pl.cut s 47):=fun h6 h=>by
  have h1:Pl.za2 s=true:=by
   rw [Pl.zr0,E1.out];simp [h6]
   intro t ht;obtain ⟨j,hj⟩:=List.mem_iff_getElem?.1 ht;exact h j t hj
  exact ⟨h1,by rw [Pl.zc0 h1,E1.out]⟩
 have hn:=hide (WWords.any s w hs);generalize Pl.cut s 47=L at hn hlen HSZ HBAD HGOOD HLONG hpos;go_enter Tryz.func38,Tryz.ntmps38
 go_wp2_with fail
 refine (za hn).mono ?_;rintro e w1 ⟨v,rfl,hown,hbel⟩;have HO:=hide hown
 rcases Mem.texts hown with ⟨rfl,rfl⟩|⟨g,cap,rfl,hcap,hm,hgb,hgl,hcell⟩
 ·simp at hpos
 have HC:=hide hcell;clear hcell hown hn;have hm2:=hm;unfold maxLen at hm2;by_cases h6:6<L.length
 ·have E:=hide (HLONG.out h6);have E2:=hide (Pl.zp9 (za E));go_wp2
  go_ret2
  refine ⟨.slice none 0 0,by rw [za E];rfl,?_,hbel⟩;rw [za E2];exact World.ownsRow_nil _ _ _ _
 go_wp2
 go_loop [19] (fun i=>∃k:Nat,k≤L.length∧i= .int .i64 (k:Int)∧Hid (∀ (j:Nat) t,j<k→L[j]? =some t→Pl.zb4 t=true)) (fun i=>L.length - (intOf i).toNat)
 case atStart=>exact ⟨0,Nat.zero_le _,rfl,fun j t h=>absurd h (by omega)⟩
 case round=>
  obtain ⟨k,hk,rfl,HA⟩:=hrel;by_cases hlt:k<L.length
  ·obtain ⟨t,ht⟩:∃t,L[k]? =some t:=⟨_,List.getElem?_eq_getElem hlt⟩;have hc:=HC.out k t ht;have hts:=HSZ.out k t ht;cases hb:Pl.zb4 t
   ·have E:=hide (HBAD.out k t ht hb);have E2:=hide (Pl.zp9 (za E));have HB:=hide hb;clear ht hb;go_wp2_with (go_at_call 54;refine (WName.zk6 t _ hts).mono ?_;rw [za HB];rintro e w' ⟨rfl,hw⟩;obtain rfl:=hw.symm)
    go_ret2
    refine ⟨.slice none 0 0,by rw [za E];rfl,?_,hbel⟩;rw [za E2];exact World.ownsRow_nil _ _ _ _
   ·have HB:=hide hb
    have HA2:Hid (∀ (j:Nat) t,j<k+1→L[j]? =some t→Pl.zb4 t=true):=fun j t' hj h'=>by
     rcases Nat.lt_succ_iff_lt_or_eq.1 hj with h''|rfl
     ·exact HA.out j t' h'' h'
     ·rw [ht] at h';cases h';exact hb
    clear ht hb HA;go_wp2_with (go_at_call 54;refine (WName.zk6 t _ hts).mono ?_;rw [za HB];rintro e w' ⟨rfl,hw⟩;obtain rfl:=hw.symm)
    go_round
    case rel=>exact ⟨k+1,by omega,by go_num,HA2⟩
    case measure=>simp [intOf];omega
  ·have E:=hide (HGOOD.out (by omega) (fun j t h=>HA.out j t (by have :=(List.getElem?_eq_some_iff.1 h).1;omega) h));clear HA;go_wp2
   go_ret2
   exact ⟨.slice (some ⟨g,0,none⟩) L.length cap,by rw [(za E).1];rfl,by rw [(za E).2];exact za HO,hbel⟩
end zn6
end
section
open Go.RowKit
namespace zh3
theorem zh9 (s:ByteArray) (w:World) (hs:s.size≤1048576):
  Calls Tryz.prog 23 #[.string s] w fun e w'=>e= .returned (.bool (Pl.za2 s))∧Below w.heap.size w w':=by
 go_enter Tryz.func23,Tryz.ntmps23
 go_wp2_with fail
 refine (zn6.any s _ hs).mono ?_;rintro e w1 ⟨v,rfl,hown,hb⟩;clear hown;go_wp2
 go_ret
 exact ⟨rfl,hb⟩
end zh3
end
end Go.Proofs.YtpggbphcbcogdaaGreatDoor
