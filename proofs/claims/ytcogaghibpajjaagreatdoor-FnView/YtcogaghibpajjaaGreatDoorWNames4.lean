import Derived.Test.YtcogaghibpajjaaGreatDoorG19
import Derived.Test.YtcogaghibpajjaaGreatDoorG28
namespace Go.Proofs.YtcogaghibpajjaaGreatDoor
open Go.RowKit
namespace Pl
def zf5 (out : List ByteArray) (K : List ByteArray) : List ByteArray := K.foldl (fun o t => insN t o) out
def zd6 (Ls : List (List Nd)) (q : ByteArray) (ks : List Nat) : List ByteArray := ks.foldl (fun o k => zf5 o (ze1 q (Ls.getD k []))) []
theorem insAll_step {out K : List ByteArray} {i : Nat} {t : ByteArray} (h : K[i]? = some t) : zf5 out (K.take (i + 1)) = insN t (zf5 out (K.take i)) := by
 have h1 := List.getElem?_eq_some_iff.1 h
 rw [List.take_succ_eq_append_getElem h1.1, h1.2, zf5, List.foldl_append]
 rfl
theorem namesK_step {Ls : List (List Nd)} {q : ByteArray} {ks : List Nat} {j k : Nat} {L : List Nd} (h : ks[j]? = some k) (hL : Ls[k]? = some L) : zd6 Ls q (ks.take (j + 1)) = zf5 (zd6 Ls q (ks.take j)) (ze1 q L) := by
 have h1 := List.getElem?_eq_some_iff.1 h
 rw [List.take_succ_eq_append_getElem h1.1, h1.2, zd6, List.foldl_append]
 show zf5 _ (ze1 q (Ls.getD k [])) = _
 rw [show Ls.getD k [] = L by simp [List.getD, hL]]
 rfl
end Pl
namespace WName4
set_option linter.unusedSimpArgs false in
set_option maxRecDepth 100000 in
set_option maxHeartbeats 2000000 in
theorem zu (q : ByteArray) (Ts : List Pl.Tr) (ks : List Nat) (ad : Option Addr) (capt gp cp : Nat) (w : World) (hT : Mem.zs2 w ad Ts) (hk4 : ks.length ≤ 4) (hkl : ∀ k ∈ ks, k < Ts.length) (hgp : gp < w.heap.size)
  (hP : ∀ (i k : Nat), ks[i]? = some k → w.cell? ⟨gp, i, none⟩ = some (.int .i64 (k : Int))) (hL : ∀ t ∈ Ts, t.L.length ≤ 40 ∧ ∀ n ∈ t.L, n.path.size ≤ 1048576 ∧ n.data.size ≤ 1048576) :
  Calls Tryz.prog 85 #[.slice ad Ts.length capt, .slice (some ⟨gp, 0, none⟩) ks.length cp, .string q] w fun e w' => ∃ g cap, e = .returned (.slice (some ⟨g, 0, none⟩) (Pl.zd6 (Ts.map (·.L)) q ks).length cap) ∧ Txt w' w.heap.size (.slice (some ⟨g, 0, none⟩) (Pl.zd6 (Ts.map (·.L)) q ks).length cap) (Pl.zd6 (Ts.map (·.L)) q ks) ∧ (Pl.zd6 (Ts.map (·.L)) q ks).length ≤ 160 ∧ Below w.heap.size w w' := by
 have A0 : Hid (Below w.heap.size w (w.alloc (.cells #[] 9)) ∧ ∃ g cap, (Value.slice (some ⟨w.heap.size, 0, none⟩) 0 0) = .slice (some ⟨g, 0, none⟩) (Pl.zd6 (Ts.map (·.L)) q (ks.take 0)).length cap ∧ Txt (w.alloc (.cells #[] 9)) w.heap.size (.slice (some ⟨g, 0, none⟩) (Pl.zd6 (Ts.map (·.L)) q (ks.take 0)).length cap) (Pl.zd6 (Ts.map (·.L)) q (ks.take 0)) ∧ (Pl.zd6 (Ts.map (·.L)) q (ks.take 0)).length ≤ 40 * 0) :=
  ⟨(Below.refl _ _).alloc (Nat.le_refl _) _, w.heap.size, 0, rfl, ⟨rfl, .inr ⟨w.heap.size, 0, #[], rfl, Nat.le_refl _, heap_alloc_new _ _, Nat.le_refl _, Nat.zero_le _, rfl, rfl⟩⟩, Nat.le_refl _⟩
 have HT := hide hT
 have HP := hide hP
 have HL := hide hL
 have HST : Hid (∀ (j k : Nat) (t : Pl.Tr), ks[j]? = some k → Ts[k]? = some t → Pl.zd6 (Ts.map (·.L)) q (ks.take (j + 1)) = Pl.zf5 (Pl.zd6 (Ts.map (·.L)) q (ks.take j)) (Pl.ze1 q t.L)) := fun j k t h1 h2 => Pl.namesK_step h1 (by rw [List.getElem?_map, h2]; rfl)
 have HFI : Hid (Pl.zd6 (Ts.map (·.L)) q ks = Pl.zd6 (Ts.map (·.L)) q (ks.take ks.length)) := by show _ = _; rw [List.take_length]
 obtain ⟨NK, hNK⟩ : ∃ NK : Nat → List ByteArray, NK = fun j => Pl.zd6 (Ts.map (·.L)) q (ks.take j) := ⟨_, rfl⟩
 have e0 : ∀ j, Pl.zd6 (Ts.map (·.L)) q (ks.take j) = NK j := fun j => by rw [hNK]
 simp only [e0] at A0 HST HFI
 generalize Pl.zd6 (Ts.map (·.L)) q ks = RR at HFI ⊢
 clear hT hP hL hNK e0
 go_enter Tryz.func85, Tryz.ntmps85
 go_wp2
 go_loopw [7, 8] (fun v i wr => ∃ j : Nat, j ≤ ks.length ∧ i = .int .i64 (j : Int) ∧ Hid (Below w.heap.size w wr ∧ ∃ g cap, v = .slice (some ⟨g, 0, none⟩) (NK j).length cap ∧ Txt wr w.heap.size (.slice (some ⟨g, 0, none⟩) (NK j).length cap) (NK j) ∧ (NK j).length ≤ 40 * j)) (fun _ i _ => ks.length - (intOf i).toNat)
 case atStart => exact ⟨0, Nat.zero_le _, rfl, A0⟩
 case round =>
  obtain ⟨j, hj, rfl, HA⟩ := hrel
  clear A0
  obtain ⟨hb, g, cap, hv7, htx, hln⟩ := za HA
  subst hv7
  have HB := hide hb
  have HX := hide htx
  clear HA htx
  by_cases hlt : j < ks.length
  ·obtain ⟨k, hk⟩ : ∃ k, ks[j]? = some k := ⟨_, List.getElem?_eq_getElem hlt⟩
   have hkT := hkl k (List.mem_of_getElem? hk)
   obtain ⟨t, ht⟩ : ∃ t, Ts[k]? = some t := ⟨_, List.getElem?_eq_getElem hkT⟩
   have HSE := hide (za HST j k t hk ht)
   have htL := za HL _ (List.mem_of_getElem? ht)
   obtain ⟨⟨bt, ot, hae, hbt, cT⟩, hnd⟩ := Mem.zr4 (za HT) hb k _ ht
   subst hae
   obtain ⟨ta, tc, tL⟩ := t
   simp only [Pl.Tr.val] at cT
   simp only at htL hnd HSE
   have cP := (hb.cell (p := ⟨gp, j, none⟩) hgp).trans (za HP j k hk)
   have y1 : (j : Int) < (ks.length : Int) := by omega
   have y2 : (0 : Int) ≤ (j : Int) := by omega
   have y3 : (k : Int) < (Ts.length : Int) := by omega
   have y4 : (0 : Int) ≤ (k : Int) := by omega
   have hl3 := hide (WNamesT.l03_any ta tc tL q wr (by omega) hnd htL.2)
   have hkn : (Pl.ze1 q tL).length ≤ 40 := by
    have := Pl.kids_len q tL tL.length
    rw [List.take_length] at this
    omega
   clear hnd htL ht hk hb
   generalize Pl.ze1 q tL = K at hl3 hkn HSE
   go_wp2_with fail
   refine (za hl3).mono ?_
   rintro e w1 ⟨vl, rfl, hownL, b1⟩
   have HB1 := hide ((za HB).trans (b1.mono (za HB).size))
   have HX1 : Hid (Txt w1 w.heap.size (.slice (some ⟨g, 0, none⟩) (NK j).length cap) (NK j)) := Mem.zg5 (za HX) b1
   have HLR := hide (Mem.zp8 hownL (Nat.zero_le _))
   have hs1 := (za HB).size
   clear HB HX hownL b1 cT cP hl3
   generalize hNj : NK j = out0 at HX1 hln HSE ⊢
   obtain ⟨vla, vlc, rfl⟩ := Mem.za0 (za HLR)
   go_wp2
   go_loopw [7, 10] (fun v i wr => ∃ m : Nat, m ≤ K.length ∧ i = .int .i64 (m : Int) ∧ Hid (Below w.heap.size w wr ∧ Below w1.heap.size w1 wr ∧ ∃ g cap, v = .slice (some ⟨g, 0, none⟩) (Pl.zf5 out0 (K.take m)).length cap ∧ Txt wr w.heap.size (.slice (some ⟨g, 0, none⟩) (Pl.zf5 out0 (K.take m)).length cap) (Pl.zf5 out0 (K.take m)) ∧ (Pl.zf5 out0 (K.take m)).length ≤ 40 * j + m)) (fun _ i _ => K.length - (intOf i).toNat)
   case atStart => exact ⟨0, Nat.zero_le _, rfl, ⟨za HB1, Below.refl _ _, g, cap, rfl, za HX1, hln⟩⟩
   case round =>
    obtain ⟨m, hm, rfl, HA⟩ := hrel
    obtain ⟨hb, hb1, g2, cap2, hv7, htx, hln2⟩ := za HA
    subst hv7
    have HB2 := hide hb
    have HB3 := hide hb1
    have HX2 := hide htx
    clear HA htx HB1 HX1 hln hb hb1
    by_cases hlt2 : m < K.length
    ·obtain ⟨t, ht⟩ : ∃ t, K[m]? = some t := ⟨_, List.getElem?_eq_getElem hlt2⟩
     have HIS := hide (Pl.insAll_step (out := out0) ht)
     have HIL := hide (Pl.ins_len t (Pl.zf5 out0 (K.take m)))
     have hlr := Mem.zg5 (za HLR) (za HB3)
     obtain ⟨gl, hgl⟩ : ∃ gl, vla = some ⟨gl, 0, none⟩ := by
      rcases hlr.2 with ⟨_, h0⟩ | ⟨gl, c', cur, h, _⟩
      ·omega
      ·injection h with h1; exact ⟨gl, h1⟩
     subst hgl
     have cL := Txt.cell (B := 0) (l := K) hlr ht
     have y5 : (m : Int) < (K.length : Int) := by omega
     have y6 : (0 : Int) ≤ (m : Int) := by omega
     have hsw := (za HB2).size
     generalize hout : Pl.zf5 out0 (K.take m) = out1 at HX2 hln2 HIS HIL ⊢
     have hnm := hide (any w.heap.size g2 cap2 out1 t wr (by omega) hsw (za HX2))
     generalize hres : Pl.insN t out1 = res at hnm HIS HIL
     clear hlr ht HX2 hout hres
     go_wp2_with fail
     refine (za hnm).mono ?_
     rintro e w5 ⟨g3, cap3, rfl, htx, b5⟩
     have HZ : Hid (Below w.heap.size w w5 ∧ Below w1.heap.size w1 w5 ∧ ∃ g cap, (Value.slice (some ⟨g3, 0, none⟩) res.length cap3) = .slice (some ⟨g, 0, none⟩) (Pl.zf5 out0 (K.take (m + 1))).length cap ∧ Txt w5 w.heap.size (.slice (some ⟨g, 0, none⟩) (Pl.zf5 out0 (K.take (m + 1))).length cap) (Pl.zf5 out0 (K.take (m + 1))) ∧ (Pl.zf5 out0 (K.take (m + 1))).length ≤ 40 * j + (m + 1)) := by
      rw [za HIS]
      exact ⟨(za HB2).trans (b5.mono (za HB2).size), (za HB3).trans (b5.mono (za HB3).size), g3, cap3, rfl, htx, by have := za HIL; omega⟩
     clear hnm htx b5 HB2 HB3 HIS HIL cL
     go_wp2
     go_roundw
     case rel => exact ⟨m + 1, by omega, by go_num, HZ⟩
     case measure => simp [intOf]; omega
    ·have y5 : ¬ (m : Int) < (K.length : Int) := by omega
     have HZ : Hid (Below w.heap.size w wr ∧ ∃ g cap, (Value.slice (some ⟨g2, 0, none⟩) (Pl.zf5 out0 (K.take m)).length cap2) = .slice (some ⟨g, 0, none⟩) (NK (j + 1)).length cap ∧ Txt wr w.heap.size (.slice (some ⟨g, 0, none⟩) (NK (j + 1)).length cap) (NK (j + 1)) ∧ (NK (j + 1)).length ≤ 40 * (j + 1)) := by
      have e1 : K.take m = K := List.take_of_length_le (by omega)
      have h1 := za HX2
      rw [e1] at h1 hln2
      rw [za HSE, e1]
      exact ⟨za HB2, g2, cap2, rfl, h1, by omega⟩
     clear HX2 HB2 HB3 HSE HLR hln2
     go_wp2
     go_roundw
     case rel => exact ⟨j + 1, by omega, by go_num, HZ⟩
     case measure => simp [intOf]; omega
  ·obtain rfl : j = ks.length := by omega
   have y1 : ¬ (ks.length : Int) < (ks.length : Int) := by omega
   have HZ : Hid (Txt wr w.heap.size (.slice (some ⟨g, 0, none⟩) RR.length cap) RR ∧ RR.length ≤ 160 ∧ (NK ks.length).length = RR.length) := by
    show _ ∧ _ ∧ _
    rw [za HFI]
    exact ⟨za HX, by omega, rfl⟩
   go_wp2
   go_ret
   exact ⟨g, cap, by rw [← (za HZ).2.2]; rfl, (za HZ).1, (za HZ).2.1, za HB⟩
end WName4
end Go.Proofs.YtcogaghibpajjaaGreatDoor
