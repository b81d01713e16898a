import Derived.Test.YtppmlbofhghghaaGreatDoorG00
import Derived.Test.YtppmlbofhghghaaGreatDoorG02
import Derived.Test.YtppmlbofhghghaaGreatDoorG10
import Derived.Maps.OwnSet
import Derived.Lib.OthersKept
import Derived.Laws.RangeAny
import Derived.Deep.Draws
import Derived.Deep.QuietTactic
import Derived.BigQuiet
namespace Go.Proofs.YtppmlbofhghghaaGreatDoor
open Go.RowKit
namespace Pl
def Nd.bare (n : Nd) : Nd := ⟨n.path, n.kind, n.data, n.time, 0⟩
def zd4 (L : List Nd) : List Nd := (L.filter (fun n => !decide (n.kind = 0))).map Nd.bare
theorem plainL_in {L : List Nd} {k : Nat} {n : Nd} (hn : L[k]? = some n) (h : n.kind ≠ 0) : zd4 (L.take (k + 1)) = zd4 (L.take k) ++ [n.bare] := by
 have h1 := List.getElem?_eq_some_iff.1 hn
 rw [List.take_succ_eq_append_getElem h1.1, h1.2]
 simp [zd4, h]
theorem yp0 {L : List Nd} {k : Nat} {n : Nd} (hn : L[k]? = some n) (h : n.kind = 0) : zd4 (L.take (k + 1)) = zd4 (L.take k) := by
 have h1 := List.getElem?_eq_some_iff.1 hn
 rw [List.take_succ_eq_append_getElem h1.1, h1.2]
 simp [zd4, h]
theorem yb3 (L : List Nd) (k : Nat) : (zd4 (L.take k)).length ≤ k := by
 have h1 : (zd4 (L.take k)).length ≤ (L.take k).length := by simpa [zd4] using List.length_filter_le _ (L.take k)
 have h2 : (L.take k).length ≤ k := by simp; omega
 omega
def plainO (L : List Nd) : List Nd := if za5 L then zd4 L else []
def zz9 (L : List Nd) : Int := if za5 L then 0 else 1
end Pl
namespace yg9
theorem zn8 : (Tryz.prog.info? 47).map (fun i => (i.zero, i.size, i.bytes)) = some (some (.agg #[.string ⟨#[]⟩, .int .i64 0, .string ⟨#[]⟩, .int .i64 0, .int .i64 0]), 5, 56) := by kernel_rfl
structure At (w wr : World) (a : Option Addr) (cap : Nat) (L : List Pl.Nd) (k : Nat) (v : Value) : Prop where
 bel : Below w.heap.size w wr
 one : Mem.Blk wr w.heap.size #[.slice a L.length cap] 50
 two : Mem.Blk wr (w.heap.size + 1) #[.slice none 0 0] 50
 out : Mem.Blk wr (w.heap.size + 1 + 1) #[v] 50
 own : Mem.ownN wr (w.heap.size + 3) v (Pl.zd4 (L.take k))
set_option maxRecDepth 100000 in
set_option maxHeartbeats 1000000 in
theorem l04_any (a : Option Addr) (cap : Nat) (L : List Pl.Nd) (w : World) (hl : L.length ≤ 1048576) (hv : Mem.za1 w a L) :
  Calls Tryz.prog 104 #[.agg #[.slice a L.length cap]] w fun e w' => ∃ v, e = .returned (.agg #[v]) ∧ Mem.ownN w' w.heap.size v (Pl.zd4 L) ∧ Below w.heap.size w w' := by
 obtain ⟨i0, hi, hz0, hz1, hz2⟩ := info_parts zn8
 have HV := hide hv
 clear hv
 have H0 : At w (((w.alloc (.cells #[.slice a L.length cap] 50)).alloc (.cells #[.slice none 0 0] 50)).alloc (.cells #[.slice none 0 0] 50)) a cap L 0 (.slice none 0 0) :=
  ⟨(((Below.refl _ _).alloc (Nat.le_refl _) _).alloc (by simp) _).alloc (by simp; omega) _, ((Mem.Blk.new _ _ _).alloc _).alloc _, (by have h := (Mem.Blk.new (w.alloc (.cells #[.slice a L.length cap] 50)) #[.slice none 0 0] 50).alloc (.cells #[.slice none 0 0] 50); rwa [show (w.alloc (.cells #[.slice a L.length cap] 50)).heap.size = w.heap.size + 1 by simp] at h), Mem.zq0 _ _ _ _, by simpa [Pl.zd4] using Mem.zb6 _ _⟩
 have HH := hide H0
 clear H0
 go_enter Tryz.func104, Tryz.ntmps104
 go_wp2
 go_loopw [4] (fun i wr => ∃ k : Nat, k ≤ L.length ∧ i = .int .i64 (k : Int) ∧ Hid (∃ v, At w wr a cap L k v)) (fun i _ => L.length - (intOf i).toNat)
 case atStart => exact ⟨0, Nat.zero_le _, rfl, ⟨_, za HH⟩⟩
 case round =>
  obtain ⟨k, hk, rfl, HA⟩ := hrel
  obtain ⟨v, A⟩ := za HA
  have c1 := A.one.cell 0
  have c3 := A.out.cell 0
  have f3 := A.out.fr 0
  simp only [kA0, kA1] at c1 c3
  have KA := hide A
  clear HA A HH
  by_cases hlt : k < L.length
  ·obtain ⟨n, hn⟩ : ∃ n, L[k]? = some n := ⟨_, List.getElem?_eq_getElem hlt⟩
   obtain ⟨b, o, rfl, hb, q0, q1, q2, q3, q4⟩ := (Mem.za0 (za HV) (za KA).bel) k n hn
   have y1 : (k : Int) < (L.length : Int) := by omega
   have y3 : (0 : Int) ≤ (k : Int) := by omega
   by_cases hk0 : n.kind = 0
   ·have t2 : (n.kind == 0) = true := by simpa using hk0
    have H2 : Hid (At w (wr.alloc (.cells #[.string n.path, .int .i64 0, .string n.data, .int .i64 n.time, .int .i64 0] 47)) (some ⟨b, o, none⟩) cap L (k + 1) v) :=
     ⟨(za KA).bel.alloc (za KA).bel.size _, (za KA).one.alloc _, (za KA).two.alloc _, (za KA).out.alloc _, by rw [Pl.yp0 hn hk0]; exact Mem.zf8 (za KA).own _⟩
    clear KA
    go_wp2
    go_roundw
    case rel => exact ⟨k + 1, by omega, by go_num, ⟨v, za H2⟩⟩
    case measure => simp [intOf]; omega
   ·have t2 : (n.kind == 0) = false := by simpa using hk0
    have HPL := hide (Pl.plainL_in hn hk0)
    have HLEN := hide (Pl.yb3 L k)
    have HLT := hide (Mem.ze2 (za KA).own)
    have HSZ := hide (za KA).out.lt
    clear hn hk0
    obtain ⟨p, k0, d, t, m⟩ := n
    simp only [Pl.Nd.bare] at q0 q1 q2 q3 q4 t2 HPL
    have c3a := ((za KA).out.alloc (.cells #[.string p, .int .i64 k0, .string d, .int .i64 t, .int .i64 0] 47)).cell 0
    simp only [kA0, kA1] at c3a
    have bW := (za KA).bel.alloc (za KA).bel.size (.cells #[.string p, .int .i64 k0, .string d, .int .i64 t, .int .i64 0] 47)
    have OWD := Mem.zf8 (za KA).own (.cells #[.string p, .int .i64 k0, .string d, .int .i64 t, .int .i64 0] 47)
    have BLD := hide ((za KA).out.alloc (.cells #[.string p, .int .i64 k0, .string d, .int .i64 t, .int .i64 0] 47))
    have BL1 := hide ((za KA).one.alloc (.cells #[.string p, .int .i64 k0, .string d, .int .i64 t, .int .i64 0] 47))
    have BL2 := hide ((za KA).two.alloc (.cells #[.string p, .int .i64 k0, .string d, .int .i64 t, .int .i64 0] 47))
    have hWs : (wr.alloc (.cells #[.string p, .int .i64 k0, .string d, .int .i64 t, .int .i64 0] 47)).heap.size = wr.heap.size + 1 := by simp
    clear KA
    have hnew : ∀ j u, [Value.string p, .int .i64 k0, .string d, .int .i64 t, .int .i64 0][j]? = some u → ((wr.alloc (.cells #[.string p, .int .i64 k0, .string d, .int .i64 t, .int .i64 0] 47)).alloc (.cells #[.string p, .int .i64 k0, .string d, .int .i64 t, .int .i64 0] 47)).cell? ((⟨wr.heap.size + 1, 0, none⟩ : Addr).add j) = some u := by
     have h := Mem.zp8 (wr.alloc (.cells #[.string p, .int .i64 k0, .string d, .int .i64 t, .int .i64 0] 47)) ⟨p, k0, d, t, 0⟩ 47
     rw [hWs] at h
     exact h
    have HNW := hide hnew
    clear hnew
    go_wp2_with (at_builtin; refine wpList_append_own _ rfl _ _ 48 rfl (w.heap.size + 3) 47 i0 _ 5 56 Tryz.underlying48 hi hz0 hz1 hz2 rfl (by decide) _ _ _ rfl (Mem.zf8 OWD _) ⟨wr.heap.size + 1, 0, none⟩ 1 1 [.string p, .int .i64 k0, .string d, .int .i64 t, .int .i64 0] rfl rfl (za HNW) (Mem.zn5 ⟨p, k0, d, t, 0⟩) (by have := za HLEN; unfold maxLen; omega) (by have := za HLEN; omega) (by have := za HSZ; simp; omega) ?_)
    intro v'' wZ hownZ hgrow _
    obtain ⟨a', cap', hv'⟩ := Mem.za2 hownZ
    subst hv'
    have blkZ := ((za BLD).alloc (.cells #[.string p, .int .i64 k0, .string d, .int .i64 t, .int .i64 0] 47)).grown hgrow (fun e => by have := (za HLT _ e.symm).1; omega)
    have cZ := blkZ.cell 0
    have fZ := blkZ.fr 0
    simp only [kA0, kA1] at cZ
    have FIN : Hid (At w (wZ.setCell ⟨w.heap.size + 1 + 1, 0, none⟩ (.slice a' ((Pl.zd4 (L.take k)).length + 1) cap')) (some ⟨b, o, none⟩) cap L (k + 1) (.slice a' ((Pl.zd4 (L.take k)).length + 1) cap')) :=
     ⟨(((bW.alloc bW.size (.cells #[.string p, .int .i64 k0, .string d, .int .i64 t, .int .i64 0] 47)).grown hgrow (by have := bW.size; simp; omega) (fun q hq => by have := (za HLT q hq).1; omega)).setCell (by show w.heap.size ≤ w.heap.size + 1 + 1; omega) _),
      (((za BL1).alloc (.cells #[.string p, .int .i64 k0, .string d, .int .i64 t, .int .i64 0] 47)).grown hgrow (fun e => by have := (za HLT _ e.symm).1; omega)).far _ _ (by show w.heap.size ≠ w.heap.size + 1 + 1; omega),
      (((za BL2).alloc (.cells #[.string p, .int .i64 k0, .string d, .int .i64 t, .int .i64 0] 47)).grown hgrow (fun e => by have := (za HLT _ e.symm).1; omega)).far _ _ (by show w.heap.size + 1 ≠ w.heap.size + 1 + 1; omega),
      blkZ.put 0 (.slice a' ((Pl.zd4 (L.take k)).length + 1) cap'), by
      rw [za HPL]
      exact Mem.za8 (Mem.zl0 (L := Pl.zd4 (L.take k)) (n := ⟨p, k0, d, t, 0⟩) hownZ) _ _ (by show w.heap.size + 1 + 1 < w.heap.size + 3; omega)⟩
    clear blkZ hownZ hgrow BLD BL1 BL2 OWD bW
    go_wp2
    go_roundw
    case rel => exact ⟨k + 1, by omega, by go_num, ⟨.slice a' ((Pl.zd4 (L.take k)).length + 1) cap', za FIN⟩⟩
    case measure => simp [intOf]; omega
  ·have y1 : ¬ (k : Int) < (L.length : Int) := by omega
   obtain rfl : k = L.length := by omega
   obtain ⟨a', cap', hv'⟩ := Mem.za2 (za KA).own
   subst hv'
   have c2 := (za KA).two.cell 0
   have f2 := (za KA).two.fr 0
   simp only [kA0, kA1] at c2
   go_wp2
   refine bodyPost_ret (v := .agg #[.slice a' (Pl.zd4 (L.take L.length)).length cap']) (by simp [results, Tryz.results104, go_sem, c2]) rfl ⟨_, rfl, ?_, ?_⟩
   ·have h := (za KA).own
    rw [show Pl.zd4 (L.take L.length) = Pl.zd4 L by rw [List.take_length]] at h ⊢
    exact Mem.zb4 (Mem.za8 h _ _ (by show w.heap.size + 1 < w.heap.size + 3; omega)) (by omega)
   ·exact (za KA).bel.setCell (by show w.heap.size ≤ w.heap.size + 1; omega) _
end yg9
end Go.Proofs.YtppmlbofhghghaaGreatDoor
