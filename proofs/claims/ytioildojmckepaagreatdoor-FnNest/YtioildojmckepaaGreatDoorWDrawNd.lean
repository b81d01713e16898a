import Derived.Test.YtioildojmckepaaGreatDoorG16
import Derived.Test.YtioildojmckepaaGreatDoorG08
import Derived.Laws.OwnMore
namespace Go.Proofs.YtioildojmckepaaGreatDoor
open Go.RowKit
namespace WSrc
theorem zm7 {w W : World} {S : Nat} (zs : List Int) {e : TypeId} (hS : S < w.heap.size) (hg : (w.alloc (.cells (zs.map (Value.int .i64)).toArray e)).grownBy W (some S)) {k : Nat} {z : Int} (hz : zs[k]? = some z) : W.cell? ⟨w.heap.size, k, none⟩ = some (.int .i64 z) := by
 have hb : W.heap[w.heap.size]? = some (.cells (zs.map (Value.int .i64)).toArray e (0, 0)) := (hg.block _ (by simp) (fun e => by cases e; omega)).trans (heap_alloc_new w _)
 rw [cell_of_row W _ _ _ _ (0, 0) hb]
 simp [hz]
theorem info8n : (Tryz.prog.info? 5).map (fun i => (i.zero, i.size, i.bytes)) = some (some (.int .u8 0), 1, 1) := by kernel_rfl
theorem zr1 (n : Nat) (hn : n ≤ 1048576) (w : World) : (Instr.makeSlice 22 (.int .i64 (n : Int)) (.int .i64 (n : Int))).run Tryz.prog w = .ok (.slice (some ⟨w.heap.size, 0, none⟩) n n) (w.alloc (.cells (madeCells #[.int .u8 0] n) 5)) := by
 obtain ⟨i0, h0, h1, h2, h3⟩ := info_parts info8n
 have h := run_make (P := Tryz.prog) w 22 5 i0 (.int .u8 0) Tryz.underlying22 h0 h1 .i64 .i64 (n : Int) (n : Int) (by omega) (Int.le_refl _) (by rw [h3]; omega) (by omega)
 rw [h, h2]
 simp [Value.cells]
theorem zr4 (n : Nat) (w : World) : (convert 22 9 (.slice (some ⟨w.heap.size, 0, none⟩) n n)).run Tryz.prog (w.alloc (.cells (madeCells #[.int .u8 0] n) 5)) = .ok (.string ⟨(List.replicate n (0 : UInt8)).toArray⟩) (w.alloc (.cells (madeCells #[.int .u8 0] n) 5)) :=
 Mem.zy4 Tryz.underlying22 Tryz.underlying5 Tryz.underlying9 (List.replicate n 0) (by simp) (heap_alloc_new w _) (by rw [toList_madeCells_one]; simp [Pl.zd2])
theorem zp0 (zs : List Int) (lo hi : Int) (h : ∀ z ∈ zs, lo ≤ z ∧ z ≤ hi) {k : Nat} (hk : k < zs.length) : ∃ z, zs[k]? = some z ∧ lo ≤ z ∧ z ≤ hi :=
 ⟨zs[k], List.getElem?_eq_getElem hk, h _ (List.getElem_mem hk)⟩
theorem ze8 {w W : World} {r : Option Nat} (h : w.grownBy W r) {X : Nat} (k : Nat) (v : Value) (hX : w.heap.size ≤ X) : w.grownBy (W.setCell ⟨X, k, none⟩ v) r :=
 ⟨h.os, h.tape, h.output, by rw [World.size_setCell]; exact h.size, fun j hj hr => (Below.heap_setCell W ⟨X, k, none⟩ v j (by show j ≠ X; omega)).trans (h.block j hj hr)⟩
theorem zg6 {W : World} {S len cap : Nat} {a : Option Addr} (h : Src W S a len cap) {X : Nat} (k : Nat) (v : Value) (hX : S < X) : Src (W.setCell ⟨X, k, none⟩ v) S a len cap := by
 obtain ⟨hr, p, m, sz, hb, hp, h0, h1⟩ := h
 refine ⟨⟨hr.1, hr.2.1, fun i hi => ?_⟩, p, m, sz, (Below.heap_setCell W ⟨X, k, none⟩ v S (by show S ≠ X; omega)).trans hb, hp, h0, h1⟩
 obtain ⟨b, o, n, e1, e2, e3, e4⟩ := hr.2.2 i hi
 exact ⟨b, o, n, e1, e2, e3, (zq8 (Below.heap_setCell W ⟨X, k, none⟩ v b (by show b ≠ X; omega))).trans e4⟩
structure Nk (w W : World) (S : Nat) (a : Option Addr) (len cap X : Nat) (p : ByteArray) (k : Int) (d : ByteArray) (t m : Int) : Prop where
 lo : S < w.heap.size
 hi : w.heap.size < X
 src : Src W S a len cap
 gr : w.grownBy W (some S)
 two : Mem.Blk W w.heap.size #[.string ⟨#[]⟩, .int .i64 0, .string ⟨#[]⟩, .int .i64 0, .int .i64 0] 88
 one : Mem.Blk W X #[.string p, .int .i64 k, .string d, .int .i64 t, .int .i64 m] 88
section
variable {w W : World} {S len cap X : Nat} {a : Option Addr} {p d : ByteArray} {k t m : Int}
theorem Nk.call (h : Nk w W S a len cap X p k d t m) {W' : World} (s : Src W' S a len cap) (g : W.grownBy W' (some S)) : Nk w W' S a len cap X p k d t m :=
 have l := h.lo
 have l2 := h.hi
 ⟨h.lo, h.hi, s, h.gr.trans g, h.two.grown g (by simp; omega), h.one.grown g (by simp; omega)⟩
theorem Nk.alloc (h : Nk w W S a len cap X p k d t m) (o : Obj) : Nk w (W.alloc o) S a len cap X p k d t m := h.call (zh6 h.src o) (World.grownBy_alloc W o (some S))
theorem Nk.lt (h : Nk w W S a len cap X p k d t m) : S < W.heap.size := zr7 h.src
theorem Nk.put0 (h : Nk w W S a len cap X p k d t m) (x : ByteArray) : Nk w (W.setCell ⟨X, 0, none⟩ (.string x)) S a len cap X x k d t m :=
 have l := h.lo
 have l2 := h.hi
 ⟨h.lo, h.hi, zg6 h.src 0 _ (by omega), ze8 h.gr 0 _ (by omega), h.two.far _ _ (by show w.heap.size ≠ X; omega), h.one.put 0 (.string x)⟩
theorem Nk.put1 (h : Nk w W S a len cap X p k d t m) (x : Int) : Nk w (W.setCell ⟨X, 1, none⟩ (.int .i64 x)) S a len cap X p x d t m :=
 have l := h.lo
 have l2 := h.hi
 ⟨h.lo, h.hi, zg6 h.src 1 _ (by omega), ze8 h.gr 1 _ (by omega), h.two.far _ _ (by show w.heap.size ≠ X; omega), h.one.put 1 (.int .i64 x)⟩
theorem Nk.put2 (h : Nk w W S a len cap X p k d t m) (x : ByteArray) : Nk w (W.setCell ⟨X, 2, none⟩ (.string x)) S a len cap X p k x t m :=
 have l := h.lo
 have l2 := h.hi
 ⟨h.lo, h.hi, zg6 h.src 2 _ (by omega), ze8 h.gr 2 _ (by omega), h.two.far _ _ (by show w.heap.size ≠ X; omega), h.one.put 2 (.string x)⟩
theorem Nk.put3 (h : Nk w W S a len cap X p k d t m) (x : Int) : Nk w (W.setCell ⟨X, 3, none⟩ (.int .i64 x)) S a len cap X p k d x m :=
 have l := h.lo
 have l2 := h.hi
 ⟨h.lo, h.hi, zg6 h.src 3 _ (by omega), ze8 h.gr 3 _ (by omega), h.two.far _ _ (by show w.heap.size ≠ X; omega), h.one.put 3 (.int .i64 x)⟩
theorem Nk.put4 (h : Nk w W S a len cap X p k d t m) (x : Int) : Nk w (W.setCell ⟨X, 4, none⟩ (.int .i64 x)) S a len cap X p k d t x :=
 have l := h.lo
 have l2 := h.hi
 ⟨h.lo, h.hi, zg6 h.src 4 _ (by omega), ze8 h.gr 4 _ (by omega), h.two.far _ _ (by show w.heap.size ≠ X; omega), h.one.put 4 (.int .i64 x)⟩
theorem Nk.done (h : Nk w W S a len cap X p k d t m) : Src (((((W.setCell ⟨w.heap.size, 0, none⟩ (.string p)).setCell ⟨w.heap.size, 1, none⟩ (.int .i64 k)).setCell ⟨w.heap.size, 2, none⟩ (.string d)).setCell ⟨w.heap.size, 3, none⟩ (.int .i64 t)).setCell ⟨w.heap.size, 4, none⟩ (.int .i64 m)) S a len cap ∧ w.grownBy (((((W.setCell ⟨w.heap.size, 0, none⟩ (.string p)).setCell ⟨w.heap.size, 1, none⟩ (.int .i64 k)).setCell ⟨w.heap.size, 2, none⟩ (.string d)).setCell ⟨w.heap.size, 3, none⟩ (.int .i64 t)).setCell ⟨w.heap.size, 4, none⟩ (.int .i64 m)) (some S)
  ∧ Mem.Blk (((((W.setCell ⟨w.heap.size, 0, none⟩ (.string p)).setCell ⟨w.heap.size, 1, none⟩ (.int .i64 k)).setCell ⟨w.heap.size, 2, none⟩ (.string d)).setCell ⟨w.heap.size, 3, none⟩ (.int .i64 t)).setCell ⟨w.heap.size, 4, none⟩ (.int .i64 m)) w.heap.size #[.string p, .int .i64 k, .string d, .int .i64 t, .int .i64 m] 88 :=
 have l := h.lo
 ⟨zg6 (zg6 (zg6 (zg6 (zg6 h.src _ _ l) _ _ l) _ _ l) _ _ l) _ _ l, ze8 (ze8 (ze8 (ze8 (ze8 h.gr _ _ (Nat.le_refl _)) _ _ (Nat.le_refl _)) _ _ (Nat.le_refl _)) _ _ (Nat.le_refl _)) _ _ (Nat.le_refl _),
  ((((h.two.put 0 _).put 1 _).put 2 _).put 3 _).put 4 _⟩
end
set_option linter.unusedSimpArgs false in
set_option maxRecDepth 100000 in
set_option maxHeartbeats 4000000 in
theorem zv6 (S : Nat) (a : Option Addr) (len cap : Nat) (w : World) (hs : Src w S a len cap) :
  Calls Tryz.prog 74 #[.pointer (some ⟨S, 0, none⟩)] w fun e w' => ∃ n : Pl.Nd, n.path.size ≤ 40 ∧ n.data.size ≤ 100 ∧ -2000000 ≤ n.kind ∧ n.kind ≤ 2000000 ∧ -2000000 ≤ n.time ∧ n.time ≤ 2000000 ∧ -2000000 ≤ n.mark ∧ n.mark ≤ 2000000 ∧ e = .returned n.val ∧ Src w' S a len cap ∧ w.grownBy w' (some S) := by
 have hS := zr7 hs
 have HS := hide hs
 clear hs
 go_enter Tryz.func74, Tryz.ntmps74
 go_wp2_with fail
 refine (path_any S a len cap _ (zh6 (za HS) _)).mono ?_
 rintro e w1 ⟨t1, ht1, rfl, s1, g1⟩
 have B2 := (Mem.Blk.new w #[.string ⟨#[]⟩, .int .i64 0, .string ⟨#[]⟩, .int .i64 0, .int .i64 0] 88).grown g1 (by simp; omega)
 have G1 := (World.grownBy_alloc w _ (some S)).trans g1
 clear g1 HS
 go_wp2_with fail
 refine (name_any S a len cap _ s1).mono ?_
 rintro e w2 ⟨t2, ht2, rfl, s2, g2⟩
 have B2 := B2.grown g2 (by simp; omega)
 have G2 := G1.trans g2
 clear g2 G1 s1
 go_wp2_with fail
 refine (zf3.join1_any t1 t2 _ (by omega) (by omega)).mono ?_
 rintro e w3 ⟨rfl, rfl⟩
 have hj := yc9 t1 t2
 generalize Pl.zq3 t1 t2 = p at hj
 have hp : p.size ≤ 40 := by omega
 clear hj ht1 ht2
 go_wp2_with fail
 refine (zc9 S a len cap 6 _ (zh6 s2 _) (by omega)).mono ?_
 rintro e w4 ⟨r, rfl, hr0, hr1, s4, g4⟩
 obtain ⟨k, rfl⟩ : ∃ k : Nat, r = (k : Int) := ⟨r.toNat, by omega⟩
 obtain ⟨z, hz, z0, z1⟩ := zp0 [1, 1, 1, 2, 2, 0] 0 2 (by decide) (k := k) (by simp; omega)
 have c0 := zm7 [1, 1, 1, 2, 2, 0] (zr7 s2) g4 hz
 have u1 : (k : Int) < 6 := by omega
 have B2 := (B2.alloc (.cells (([1, 1, 1, 2, 2, 0] : List Int).map (Value.int .i64)).toArray 2)).grown g4 (by simp; omega)
 have G4 := G2.trans ((World.grownBy_alloc _ _ _).trans g4)
 have hlt : w.heap.size < w4.heap.size := B2.lt
 clear g4 hz G2 s2 hr0 hr1
 have z2 : z = 0 ∨ z = 1 ∨ z = 2 := by omega
 clear z0 z1
 rcases z2 with rfl | rfl | rfl
 ·go_wp2_with fail
  have H : Nk w (w4.alloc (.cells #[.string p, .int .i64 0, .string ⟨#[]⟩, .int .i64 0, .int .i64 0] 88)) S a len cap w4.heap.size p 0 ⟨#[]⟩ 0 0 := ⟨hS, hlt, zh6 s4 _, G4.trans (World.grownBy_alloc w4 _ (some S)), B2.alloc _, Mem.Blk.new w4 _ _⟩
  generalize w4.alloc (.cells #[.string p, .int .i64 0, .string ⟨#[]⟩, .int .i64 0, .int .i64 0] 88) = W5 at H ⊢
  generalize w4.heap.size = X at H ⊢
  clear c0 s4 G4 B2 hlt
  refine (zc9 S a len cap 3 _ H.src (by omega)).mono ?_
  rintro e v1 ⟨r, rfl, r0, r1, sN, gN⟩
  have H := H.call sN gN
  clear sN gN
  have f3 := H.one.fr
  have d3 := H.one.cell
  go_wp2_with fail
  have H := H.put4 (1 + r)
  clear f3 d3
  generalize v1.setCell ⟨X, 4, none⟩ (.int .i64 (1 + r)) = v2 at H ⊢
  have hd : (⟨#[]⟩ : ByteArray).size ≤ 100 := by decide
  refine (zh5 S a len cap 25 _ H.src (by omega)).mono ?_
  rintro e v3 ⟨b, rfl, sN, gN⟩
  have H := H.call sN gN
  clear sN gN
  have f3 := H.one.fr
  have d3 := H.one.cell
  cases b
  ·have f2 := H.two.fr
   have d2 := H.two.cell
   have hX := H.hi
   have hD := H.done
   go_wp2
   have q := hD.2.2.cell
   refine bodyPost_ret (v := .agg #[.string p, .int .i64 (0), .string ⟨#[]⟩, .int .i64 (0), .int .i64 (1 + r)]) (by simp [results, Tryz.results74, go_sem, q]) rfl ⟨⟨p, 0, ⟨#[]⟩, 0, 1 + r⟩, hp, hd, by dsimp only; omega, by dsimp only; omega, by dsimp only; omega, by dsimp only; omega, by dsimp only; omega, by dsimp only; omega, rfl, hD.1, hD.2.1⟩
  ·go_wp2_with fail
   clear f3 d3
   refine (zc9 S a len cap 5 _ H.src (by omega)).mono ?_
   rintro e v4 ⟨q, rfl, q0, q1, sN, gN⟩
   have H := H.call sN gN
   clear sN gN
   have f3 := H.one.fr
   have d3 := H.one.cell
   have q2 : q = 0 ∨ q = 1 ∨ q = 2 ∨ q = 3 ∨ q = 4 := by omega
   clear q0 q1
   rcases q2 with rfl | rfl | rfl | rfl | rfl
   ·go_wp2_with fail
    clear f3 d3
    refine (zc9 S a len cap 5 _ H.src (by omega)).mono ?_
    rintro e v5 ⟨y, rfl, y0, y1, sN, gN⟩
    have H := H.call sN gN
    clear sN gN
    have f3 := H.one.fr
    have d3 := H.one.cell
    have hw : IntKind.i64.wrap (y - 1) = y - 1 := by rw [IntKind.wrap_i64]; omega
    have K := H.put1 (y - 1)
    have f4 := K.one.fr
    have d4 := K.one.cell
    have f2 := K.two.fr
    have d2 := K.two.cell
    have hX := K.hi
    have hD := K.done
    go_wp2
    have q := hD.2.2.cell
    refine bodyPost_ret (v := .agg #[.string p, .int .i64 (y - 1), .string ⟨#[]⟩, .int .i64 (0), .int .i64 (1 + r)]) (by simp [results, Tryz.results74, go_sem, q]) rfl ⟨⟨p, y - 1, ⟨#[]⟩, 0, 1 + r⟩, hp, hd, by dsimp only; omega, by dsimp only; omega, by dsimp only; omega, by dsimp only; omega, by dsimp only; omega, by dsimp only; omega, rfl, hD.1, hD.2.1⟩
   ·go_wp2_with fail
    have hl := H.lt
    refine (zc9 S a len cap 4 _ (H.alloc _).src (by omega)).mono ?_
    rintro e v6 ⟨r, rfl, r0, r1, sN, gN⟩
    obtain ⟨j, rfl⟩ : ∃ j : Nat, r = (j : Int) := ⟨r.toNat, by omega⟩
    obtain ⟨y, hy, y0, y1⟩ := zp0 [-1, 0, 8, 9] (-1) 9 (by decide) (k := j) (by simp; omega)
    have cj := zm7 [-1, 0, 8, 9] hl gN hy
    have uj : (j : Int) < 4 := by omega
    have H := (H.alloc _).call sN gN
    clear sN gN hy r0 r1 f3 d3
    have f3 := H.one.fr
    have d3 := H.one.cell
    have K := H.put4 (y)
    have f4 := K.one.fr
    have d4 := K.one.cell
    have f2 := K.two.fr
    have d2 := K.two.cell
    have hX := K.hi
    have hD := K.done
    go_wp2
    have q := hD.2.2.cell
    refine bodyPost_ret (v := .agg #[.string p, .int .i64 (0), .string ⟨#[]⟩, .int .i64 (0), .int .i64 (y)]) (by simp [results, Tryz.results74, go_sem, q]) rfl ⟨⟨p, 0, ⟨#[]⟩, 0, y⟩, hp, hd, by dsimp only; omega, by dsimp only; omega, by dsimp only; omega, by dsimp only; omega, by dsimp only; omega, by dsimp only; omega, rfl, hD.1, hD.2.1⟩
   ·go_wp2_with fail
    have hl := H.lt
    refine (zc9 S a len cap 3 _ (H.alloc _).src (by omega)).mono ?_
    rintro e v7 ⟨r, rfl, r0, r1, sN, gN⟩
    obtain ⟨j, rfl⟩ : ∃ j : Nat, r = (j : Int) := ⟨r.toNat, by omega⟩
    obtain ⟨y, hy, y0, y1⟩ := zp0 [-1, 1000000, 1000001] (-1) 1000001 (by decide) (k := j) (by simp; omega)
    have cj := zm7 [-1, 1000000, 1000001] hl gN hy
    have uj : (j : Int) < 3 := by omega
    have H := (H.alloc _).call sN gN
    clear sN gN hy r0 r1 f3 d3
    have f3 := H.one.fr
    have d3 := H.one.cell
    have K := H.put3 (y)
    have f4 := K.one.fr
    have d4 := K.one.cell
    have f2 := K.two.fr
    have d2 := K.two.cell
    have hX := K.hi
    have hD := K.done
    go_wp2
    have q := hD.2.2.cell
    refine bodyPost_ret (v := .agg #[.string p, .int .i64 (0), .string ⟨#[]⟩, .int .i64 (y), .int .i64 (1 + r)]) (by simp [results, Tryz.results74, go_sem, q]) rfl ⟨⟨p, 0, ⟨#[]⟩, y, 1 + r⟩, hp, hd, by dsimp only; omega, by dsimp only; omega, by dsimp only; omega, by dsimp only; omega, by dsimp only; omega, by dsimp only; omega, rfl, hD.1, hD.2.1⟩
   ·go_wp2_with fail
    clear f3 d3
    refine (zc9 S a len cap 2 _ H.src (by omega)).mono ?_
    rintro e v8 ⟨y, rfl, y0, y1, sN, gN⟩
    have H := H.call sN gN
    clear sN gN
    have f3 := H.one.fr
    have d3 := H.one.cell
    have y2 : y = 0 ∨ y = 1 := by omega
    clear y0 y1 hd
    rcases y2 with rfl | rfl
    ·have hm : (Instr.makeSlice 22 (.int .i64 60) (.int .i64 60)).run Tryz.prog v8 = .ok (.slice (some ⟨v8.heap.size, 0, none⟩) 60 60) (v8.alloc (.cells (madeCells #[.int .u8 0] 60) 5)) := zr1 60 (by omega) v8
     have hc := zr4 60 v8
     have hd : (⟨(List.replicate 60 (0 : UInt8)).toArray⟩ : ByteArray).size ≤ 100 := by decide
     have H := H.alloc (.cells (madeCells #[.int .u8 0] 60) 5)
     generalize (⟨(List.replicate 60 (0 : UInt8)).toArray⟩ : ByteArray) = D at hc hd
     generalize v8.alloc (.cells (madeCells #[.int .u8 0] 60) 5) = WM at hm hc H
     clear f3 d3
     have f3 := H.one.fr
     have d3 := H.one.cell
     have K := H.put2 (D)
     have f4 := K.one.fr
     have d4 := K.one.cell
     have f2 := K.two.fr
     have d2 := K.two.cell
     have hX := K.hi
     have hD := K.done
     go_wp2
     have q := hD.2.2.cell
     refine bodyPost_ret (v := .agg #[.string p, .int .i64 (0), .string D, .int .i64 (0), .int .i64 (1 + r)]) (by simp [results, Tryz.results74, go_sem, q]) rfl ⟨⟨p, 0, D, 0, 1 + r⟩, hp, hd, by dsimp only; omega, by dsimp only; omega, by dsimp only; omega, by dsimp only; omega, by dsimp only; omega, by dsimp only; omega, rfl, hD.1, hD.2.1⟩
    ·have hm : (Instr.makeSlice 22 (.int .i64 61) (.int .i64 61)).run Tryz.prog v8 = .ok (.slice (some ⟨v8.heap.size, 0, none⟩) 61 61) (v8.alloc (.cells (madeCells #[.int .u8 0] 61) 5)) := zr1 61 (by omega) v8
     have hc := zr4 61 v8
     have hd : (⟨(List.replicate 61 (0 : UInt8)).toArray⟩ : ByteArray).size ≤ 100 := by decide
     have H := H.alloc (.cells (madeCells #[.int .u8 0] 61) 5)
     generalize (⟨(List.replicate 61 (0 : UInt8)).toArray⟩ : ByteArray) = D at hc hd
     generalize v8.alloc (.cells (madeCells #[.int .u8 0] 61) 5) = WM at hm hc H
     clear f3 d3
     have f3 := H.one.fr
     have d3 := H.one.cell
     have K := H.put2 (D)
     have f4 := K.one.fr
     have d4 := K.one.cell
     have f2 := K.two.fr
     have d2 := K.two.cell
     have hX := K.hi
     have hD := K.done
     go_wp2
     have q := hD.2.2.cell
     refine bodyPost_ret (v := .agg #[.string p, .int .i64 (0), .string D, .int .i64 (0), .int .i64 (1 + r)]) (by simp [results, Tryz.results74, go_sem, q]) rfl ⟨⟨p, 0, D, 0, 1 + r⟩, hp, hd, by dsimp only; omega, by dsimp only; omega, by dsimp only; omega, by dsimp only; omega, by dsimp only; omega, by dsimp only; omega, rfl, hD.1, hD.2.1⟩
   ·go_wp2_with fail
    have hl := H.lt
    refine (zn9 S v4.heap.size 3 [⟨#[]⟩, ⟨#[65]⟩, ⟨#[97, 47]⟩] a len cap (v4.alloc (.cells (([⟨#[]⟩, ⟨#[65]⟩, ⟨#[97, 47]⟩] : List ByteArray).map Value.string).toArray 9)) (H.alloc _).src (by simp) (by simp) (by omega) (zm5 v4 [⟨#[]⟩, ⟨#[65]⟩, ⟨#[97, 47]⟩] _)).mono ?_
    rintro e v9 ⟨y, hm, rfl, sN, gN⟩
    have hy : y.size ≤ 2 := by
     simp only [List.mem_cons, List.not_mem_nil, or_false] at hm
     rcases hm with rfl | rfl | rfl <;> decide
    have H := (H.alloc _).call sN gN
    clear sN gN hm f3 d3
    have f3 := H.one.fr
    have d3 := H.one.cell
    have hp : y.size ≤ 40 := by omega
    have K := H.put0 (y)
    have f4 := K.one.fr
    have d4 := K.one.cell
    have f2 := K.two.fr
    have d2 := K.two.cell
    have hX := K.hi
    have hD := K.done
    go_wp2
    have q := hD.2.2.cell
    refine bodyPost_ret (v := .agg #[.string y, .int .i64 (0), .string ⟨#[]⟩, .int .i64 (0), .int .i64 (1 + r)]) (by simp [results, Tryz.results74, go_sem, q]) rfl ⟨⟨y, 0, ⟨#[]⟩, 0, 1 + r⟩, hp, hd, by dsimp only; omega, by dsimp only; omega, by dsimp only; omega, by dsimp only; omega, by dsimp only; omega, by dsimp only; omega, rfl, hD.1, hD.2.1⟩
 ·go_wp2_with fail
  have H : Nk w (w4.alloc (.cells #[.string p, .int .i64 1, .string ⟨#[]⟩, .int .i64 0, .int .i64 0] 88)) S a len cap w4.heap.size p 1 ⟨#[]⟩ 0 0 := ⟨hS, hlt, zh6 s4 _, G4.trans (World.grownBy_alloc w4 _ (some S)), B2.alloc _, Mem.Blk.new w4 _ _⟩
  generalize w4.alloc (.cells #[.string p, .int .i64 1, .string ⟨#[]⟩, .int .i64 0, .int .i64 0] 88) = W5 at H ⊢
  generalize w4.heap.size = X at H ⊢
  clear c0 s4 G4 B2 hlt
  refine (zc9 S a len cap 50 _ H.src (by omega)).mono ?_
  rintro e v10 ⟨r, rfl, r0, r1, sN, gN⟩
  have H := H.call sN gN
  clear sN gN
  have f3 := H.one.fr
  have d3 := H.one.cell
  have hd : (⟨#[]⟩ : ByteArray).size ≤ 100 := by decide
  go_wp2_with fail
  have H := H.put3 (r)
  clear f3 d3
  generalize v10.setCell ⟨X, 3, none⟩ (.int .i64 (r)) = v11 at H ⊢
  refine (zh5 S a len cap 4 _ H.src (by omega)).mono ?_
  rintro e v12 ⟨b, rfl, sN, gN⟩
  have H := H.call sN gN
  clear sN gN
  have f3 := H.one.fr
  have d3 := H.one.cell
  cases b
  ·go_wp2_with fail
   clear f3 d3
   refine (zh5 S a len cap 25 _ H.src (by omega)).mono ?_
   rintro e v13 ⟨b, rfl, sN, gN⟩
   have H := H.call sN gN
   clear sN gN
   have f3 := H.one.fr
   have d3 := H.one.cell
   cases b
   ·have f2 := H.two.fr
    have d2 := H.two.cell
    have hX := H.hi
    have hD := H.done
    go_wp2
    have q := hD.2.2.cell
    refine bodyPost_ret (v := .agg #[.string p, .int .i64 (1), .string ⟨#[]⟩, .int .i64 (r), .int .i64 (0)]) (by simp [results, Tryz.results74, go_sem, q]) rfl ⟨⟨p, 1, ⟨#[]⟩, r, 0⟩, hp, hd, by dsimp only; omega, by dsimp only; omega, by dsimp only; omega, by dsimp only; omega, by dsimp only; omega, by dsimp only; omega, rfl, hD.1, hD.2.1⟩
   ·go_wp2_with fail
    clear f3 d3
    refine (zc9 S a len cap 5 _ H.src (by omega)).mono ?_
    rintro e v14 ⟨q, rfl, q0, q1, sN, gN⟩
    have H := H.call sN gN
    clear sN gN
    have f3 := H.one.fr
    have d3 := H.one.cell
    have q2 : q = 0 ∨ q = 1 ∨ q = 2 ∨ q = 3 ∨ q = 4 := by omega
    clear q0 q1
    rcases q2 with rfl | rfl | rfl | rfl | rfl
    ·go_wp2_with fail
     clear f3 d3
     refine (zc9 S a len cap 5 _ H.src (by omega)).mono ?_
     rintro e v15 ⟨y, rfl, y0, y1, sN, gN⟩
     have H := H.call sN gN
     clear sN gN
     have f3 := H.one.fr
     have d3 := H.one.cell
     have hw : IntKind.i64.wrap (y - 1) = y - 1 := by rw [IntKind.wrap_i64]; omega
     have K := H.put1 (y - 1)
     have f4 := K.one.fr
     have d4 := K.one.cell
     have f2 := K.two.fr
     have d2 := K.two.cell
     have hX := K.hi
     have hD := K.done
     go_wp2
     have q := hD.2.2.cell
     refine bodyPost_ret (v := .agg #[.string p, .int .i64 (y - 1), .string ⟨#[]⟩, .int .i64 (r), .int .i64 (0)]) (by simp [results, Tryz.results74, go_sem, q]) rfl ⟨⟨p, y - 1, ⟨#[]⟩, r, 0⟩, hp, hd, by dsimp only; omega, by dsimp only; omega, by dsimp only; omega, by dsimp only; omega, by dsimp only; omega, by dsimp only; omega, rfl, hD.1, hD.2.1⟩
    ·go_wp2_with fail
     have hl := H.lt
     refine (zc9 S a len cap 4 _ (H.alloc _).src (by omega)).mono ?_
     rintro e v16 ⟨r, rfl, r0, r1, sN, gN⟩
     obtain ⟨j, rfl⟩ : ∃ j : Nat, r = (j : Int) := ⟨r.toNat, by omega⟩
     obtain ⟨y, hy, y0, y1⟩ := zp0 [-1, 0, 8, 9] (-1) 9 (by decide) (k := j) (by simp; omega)
     have cj := zm7 [-1, 0, 8, 9] hl gN hy
     have uj : (j : Int) < 4 := by omega
     have H := (H.alloc _).call sN gN
     clear sN gN hy r0 r1 f3 d3
     have f3 := H.one.fr
     have d3 := H.one.cell
     have K := H.put4 (y)
     have f4 := K.one.fr
     have d4 := K.one.cell
     have f2 := K.two.fr
     have d2 := K.two.cell
     have hX := K.hi
     have hD := K.done
     go_wp2
     have q := hD.2.2.cell
     refine bodyPost_ret (v := .agg #[.string p, .int .i64 (1), .string ⟨#[]⟩, .int .i64 (r), .int .i64 (y)]) (by simp [results, Tryz.results74, go_sem, q]) rfl ⟨⟨p, 1, ⟨#[]⟩, r, y⟩, hp, hd, by dsimp only; omega, by dsimp only; omega, by dsimp only; omega, by dsimp only; omega, by dsimp only; omega, by dsimp only; omega, rfl, hD.1, hD.2.1⟩
    ·go_wp2_with fail
     have hl := H.lt
     refine (zc9 S a len cap 3 _ (H.alloc _).src (by omega)).mono ?_
     rintro e v17 ⟨r, rfl, r0, r1, sN, gN⟩
     obtain ⟨j, rfl⟩ : ∃ j : Nat, r = (j : Int) := ⟨r.toNat, by omega⟩
     obtain ⟨y, hy, y0, y1⟩ := zp0 [-1, 1000000, 1000001] (-1) 1000001 (by decide) (k := j) (by simp; omega)
     have cj := zm7 [-1, 1000000, 1000001] hl gN hy
     have uj : (j : Int) < 3 := by omega
     have H := (H.alloc _).call sN gN
     clear sN gN hy r0 r1 f3 d3
     have f3 := H.one.fr
     have d3 := H.one.cell
     have K := H.put3 (y)
     have f4 := K.one.fr
     have d4 := K.one.cell
     have f2 := K.two.fr
     have d2 := K.two.cell
     have hX := K.hi
     have hD := K.done
     go_wp2
     have q := hD.2.2.cell
     refine bodyPost_ret (v := .agg #[.string p, .int .i64 (1), .string ⟨#[]⟩, .int .i64 (y), .int .i64 (0)]) (by simp [results, Tryz.results74, go_sem, q]) rfl ⟨⟨p, 1, ⟨#[]⟩, y, 0⟩, hp, hd, by dsimp only; omega, by dsimp only; omega, by dsimp only; omega, by dsimp only; omega, by dsimp only; omega, by dsimp only; omega, rfl, hD.1, hD.2.1⟩
    ·go_wp2_with fail
     clear f3 d3
     refine (zc9 S a len cap 2 _ H.src (by omega)).mono ?_
     rintro e v18 ⟨y, rfl, y0, y1, sN, gN⟩
     have H := H.call sN gN
     clear sN gN
     have f3 := H.one.fr
     have d3 := H.one.cell
     have y2 : y = 0 ∨ y = 1 := by omega
     clear y0 y1 hd
     rcases y2 with rfl | rfl
     ·have hm : (Instr.makeSlice 22 (.int .i64 60) (.int .i64 60)).run Tryz.prog v18 = .ok (.slice (some ⟨v18.heap.size, 0, none⟩) 60 60) (v18.alloc (.cells (madeCells #[.int .u8 0] 60) 5)) := zr1 60 (by omega) v18
      have hc := zr4 60 v18
      have hd : (⟨(List.replicate 60 (0 : UInt8)).toArray⟩ : ByteArray).size ≤ 100 := by decide
      have H := H.alloc (.cells (madeCells #[.int .u8 0] 60) 5)
      generalize (⟨(List.replicate 60 (0 : UInt8)).toArray⟩ : ByteArray) = D at hc hd
      generalize v18.alloc (.cells (madeCells #[.int .u8 0] 60) 5) = WM at hm hc H
      clear f3 d3
      have f3 := H.one.fr
      have d3 := H.one.cell
      have K := H.put2 (D)
      have f4 := K.one.fr
      have d4 := K.one.cell
      have f2 := K.two.fr
      have d2 := K.two.cell
      have hX := K.hi
      have hD := K.done
      go_wp2
      have q := hD.2.2.cell
      refine bodyPost_ret (v := .agg #[.string p, .int .i64 (1), .string D, .int .i64 (r), .int .i64 (0)]) (by simp [results, Tryz.results74, go_sem, q]) rfl ⟨⟨p, 1, D, r, 0⟩, hp, hd, by dsimp only; omega, by dsimp only; omega, by dsimp only; omega, by dsimp only; omega, by dsimp only; omega, by dsimp only; omega, rfl, hD.1, hD.2.1⟩
     ·have hm : (Instr.makeSlice 22 (.int .i64 61) (.int .i64 61)).run Tryz.prog v18 = .ok (.slice (some ⟨v18.heap.size, 0, none⟩) 61 61) (v18.alloc (.cells (madeCells #[.int .u8 0] 61) 5)) := zr1 61 (by omega) v18
      have hc := zr4 61 v18
      have hd : (⟨(List.replicate 61 (0 : UInt8)).toArray⟩ : ByteArray).size ≤ 100 := by decide
      have H := H.alloc (.cells (madeCells #[.int .u8 0] 61) 5)
      generalize (⟨(List.replicate 61 (0 : UInt8)).toArray⟩ : ByteArray) = D at hc hd
      generalize v18.alloc (.cells (madeCells #[.int .u8 0] 61) 5) = WM at hm hc H
      clear f3 d3
      have f3 := H.one.fr
      have d3 := H.one.cell
      have K := H.put2 (D)
      have f4 := K.one.fr
      have d4 := K.one.cell
      have f2 := K.two.fr
      have d2 := K.two.cell
      have hX := K.hi
      have hD := K.done
      go_wp2
      have q := hD.2.2.cell
      refine bodyPost_ret (v := .agg #[.string p, .int .i64 (1), .string D, .int .i64 (r), .int .i64 (0)]) (by simp [results, Tryz.results74, go_sem, q]) rfl ⟨⟨p, 1, D, r, 0⟩, hp, hd, by dsimp only; omega, by dsimp only; omega, by dsimp only; omega, by dsimp only; omega, by dsimp only; omega, by dsimp only; omega, rfl, hD.1, hD.2.1⟩
    ·go_wp2_with fail
     have hl := H.lt
     refine (zn9 S v14.heap.size 3 [⟨#[]⟩, ⟨#[65]⟩, ⟨#[97, 47]⟩] a len cap (v14.alloc (.cells (([⟨#[]⟩, ⟨#[65]⟩, ⟨#[97, 47]⟩] : List ByteArray).map Value.string).toArray 9)) (H.alloc _).src (by simp) (by simp) (by omega) (zm5 v14 [⟨#[]⟩, ⟨#[65]⟩, ⟨#[97, 47]⟩] _)).mono ?_
     rintro e v19 ⟨y, hm, rfl, sN, gN⟩
     have hy : y.size ≤ 2 := by
      simp only [List.mem_cons, List.not_mem_nil, or_false] at hm
      rcases hm with rfl | rfl | rfl <;> decide
     have H := (H.alloc _).call sN gN
     clear sN gN hm f3 d3
     have f3 := H.one.fr
     have d3 := H.one.cell
     have hp : y.size ≤ 40 := by omega
     have K := H.put0 (y)
     have f4 := K.one.fr
     have d4 := K.one.cell
     have f2 := K.two.fr
     have d2 := K.two.cell
     have hX := K.hi
     have hD := K.done
     go_wp2
     have q := hD.2.2.cell
     refine bodyPost_ret (v := .agg #[.string y, .int .i64 (1), .string ⟨#[]⟩, .int .i64 (r), .int .i64 (0)]) (by simp [results, Tryz.results74, go_sem, q]) rfl ⟨⟨y, 1, ⟨#[]⟩, r, 0⟩, hp, hd, by dsimp only; omega, by dsimp only; omega, by dsimp only; omega, by dsimp only; omega, by dsimp only; omega, by dsimp only; omega, rfl, hD.1, hD.2.1⟩
  ·go_wp2_with fail
   clear f3 d3
   refine (zc9 S a len cap 3 _ H.src (by omega)).mono ?_
   rintro e v20 ⟨u, rfl, u0, u1, sN, gN⟩
   have H := H.call sN gN
   clear sN gN
   have f3 := H.one.fr
   have d3 := H.one.cell
   go_wp2_with fail
   have H := H.put4 (1 + u)
   clear f3 d3
   generalize v20.setCell ⟨X, 4, none⟩ (.int .i64 (1 + u)) = v21 at H ⊢
   refine (zh5 S a len cap 25 _ H.src (by omega)).mono ?_
   rintro e v22 ⟨b, rfl, sN, gN⟩
   have H := H.call sN gN
   clear sN gN
   have f3 := H.one.fr
   have d3 := H.one.cell
   cases b
   ·have f2 := H.two.fr
    have d2 := H.two.cell
    have hX := H.hi
    have hD := H.done
    go_wp2
    have q := hD.2.2.cell
    refine bodyPost_ret (v := .agg #[.string p, .int .i64 (1), .string ⟨#[]⟩, .int .i64 (r), .int .i64 (1 + u)]) (by simp [results, Tryz.results74, go_sem, q]) rfl ⟨⟨p, 1, ⟨#[]⟩, r, 1 + u⟩, hp, hd, by dsimp only; omega, by dsimp only; omega, by dsimp only; omega, by dsimp only; omega, by dsimp only; omega, by dsimp only; omega, rfl, hD.1, hD.2.1⟩
   ·go_wp2_with fail
    clear f3 d3
    refine (zc9 S a len cap 5 _ H.src (by omega)).mono ?_
    rintro e v23 ⟨q, rfl, q0, q1, sN, gN⟩
    have H := H.call sN gN
    clear sN gN
    have f3 := H.one.fr
    have d3 := H.one.cell
    have q2 : q = 0 ∨ q = 1 ∨ q = 2 ∨ q = 3 ∨ q = 4 := by omega
    clear q0 q1
    rcases q2 with rfl | rfl | rfl | rfl | rfl
    ·go_wp2_with fail
     clear f3 d3
     refine (zc9 S a len cap 5 _ H.src (by omega)).mono ?_
     rintro e v24 ⟨y, rfl, y0, y1, sN, gN⟩
     have H := H.call sN gN
     clear sN gN
     have f3 := H.one.fr
     have d3 := H.one.cell
     have hw : IntKind.i64.wrap (y - 1) = y - 1 := by rw [IntKind.wrap_i64]; omega
     have K := H.put1 (y - 1)
     have f4 := K.one.fr
     have d4 := K.one.cell
     have f2 := K.two.fr
     have d2 := K.two.cell
     have hX := K.hi
     have hD := K.done
     go_wp2
     have q := hD.2.2.cell
     refine bodyPost_ret (v := .agg #[.string p, .int .i64 (y - 1), .string ⟨#[]⟩, .int .i64 (r), .int .i64 (1 + u)]) (by simp [results, Tryz.results74, go_sem, q]) rfl ⟨⟨p, y - 1, ⟨#[]⟩, r, 1 + u⟩, hp, hd, by dsimp only; omega, by dsimp only; omega, by dsimp only; omega, by dsimp only; omega, by dsimp only; omega, by dsimp only; omega, rfl, hD.1, hD.2.1⟩
    ·go_wp2_with fail
     have hl := H.lt
     refine (zc9 S a len cap 4 _ (H.alloc _).src (by omega)).mono ?_
     rintro e v25 ⟨r, rfl, r0, r1, sN, gN⟩
     obtain ⟨j, rfl⟩ : ∃ j : Nat, r = (j : Int) := ⟨r.toNat, by omega⟩
     obtain ⟨y, hy, y0, y1⟩ := zp0 [-1, 0, 8, 9] (-1) 9 (by decide) (k := j) (by simp; omega)
     have cj := zm7 [-1, 0, 8, 9] hl gN hy
     have uj : (j : Int) < 4 := by omega
     have H := (H.alloc _).call sN gN
     clear sN gN hy r0 r1 f3 d3
     have f3 := H.one.fr
     have d3 := H.one.cell
     have K := H.put4 (y)
     have f4 := K.one.fr
     have d4 := K.one.cell
     have f2 := K.two.fr
     have d2 := K.two.cell
     have hX := K.hi
     have hD := K.done
     go_wp2
     have q := hD.2.2.cell
     refine bodyPost_ret (v := .agg #[.string p, .int .i64 (1), .string ⟨#[]⟩, .int .i64 (r), .int .i64 (y)]) (by simp [results, Tryz.results74, go_sem, q]) rfl ⟨⟨p, 1, ⟨#[]⟩, r, y⟩, hp, hd, by dsimp only; omega, by dsimp only; omega, by dsimp only; omega, by dsimp only; omega, by dsimp only; omega, by dsimp only; omega, rfl, hD.1, hD.2.1⟩
    ·go_wp2_with fail
     have hl := H.lt
     refine (zc9 S a len cap 3 _ (H.alloc _).src (by omega)).mono ?_
     rintro e v26 ⟨r, rfl, r0, r1, sN, gN⟩
     obtain ⟨j, rfl⟩ : ∃ j : Nat, r = (j : Int) := ⟨r.toNat, by omega⟩
     obtain ⟨y, hy, y0, y1⟩ := zp0 [-1, 1000000, 1000001] (-1) 1000001 (by decide) (k := j) (by simp; omega)
     have cj := zm7 [-1, 1000000, 1000001] hl gN hy
     have uj : (j : Int) < 3 := by omega
     have H := (H.alloc _).call sN gN
     clear sN gN hy r0 r1 f3 d3
     have f3 := H.one.fr
     have d3 := H.one.cell
     have K := H.put3 (y)
     have f4 := K.one.fr
     have d4 := K.one.cell
     have f2 := K.two.fr
     have d2 := K.two.cell
     have hX := K.hi
     have hD := K.done
     go_wp2
     have q := hD.2.2.cell
     refine bodyPost_ret (v := .agg #[.string p, .int .i64 (1), .string ⟨#[]⟩, .int .i64 (y), .int .i64 (1 + u)]) (by simp [results, Tryz.results74, go_sem, q]) rfl ⟨⟨p, 1, ⟨#[]⟩, y, 1 + u⟩, hp, hd, by dsimp only; omega, by dsimp only; omega, by dsimp only; omega, by dsimp only; omega, by dsimp only; omega, by dsimp only; omega, rfl, hD.1, hD.2.1⟩
    ·go_wp2_with fail
     clear f3 d3
     refine (zc9 S a len cap 2 _ H.src (by omega)).mono ?_
     rintro e v27 ⟨y, rfl, y0, y1, sN, gN⟩
     have H := H.call sN gN
     clear sN gN
     have f3 := H.one.fr
     have d3 := H.one.cell
     have y2 : y = 0 ∨ y = 1 := by omega
     clear y0 y1 hd
     rcases y2 with rfl | rfl
     ·have hm : (Instr.makeSlice 22 (.int .i64 60) (.int .i64 60)).run Tryz.prog v27 = .ok (.slice (some ⟨v27.heap.size, 0, none⟩) 60 60) (v27.alloc (.cells (madeCells #[.int .u8 0] 60) 5)) := zr1 60 (by omega) v27
      have hc := zr4 60 v27
      have hd : (⟨(List.replicate 60 (0 : UInt8)).toArray⟩ : ByteArray).size ≤ 100 := by decide
      have H := H.alloc (.cells (madeCells #[.int .u8 0] 60) 5)
      generalize (⟨(List.replicate 60 (0 : UInt8)).toArray⟩ : ByteArray) = D at hc hd
      generalize v27.alloc (.cells (madeCells #[.int .u8 0] 60) 5) = WM at hm hc H
      clear f3 d3
      have f3 := H.one.fr
      have d3 := H.one.cell
      have K := H.put2 (D)
      have f4 := K.one.fr
      have d4 := K.one.cell
      have f2 := K.two.fr
      have d2 := K.two.cell
      have hX := K.hi
      have hD := K.done
      go_wp2
      have q := hD.2.2.cell
      refine bodyPost_ret (v := .agg #[.string p, .int .i64 (1), .string D, .int .i64 (r), .int .i64 (1 + u)]) (by simp [results, Tryz.results74, go_sem, q]) rfl ⟨⟨p, 1, D, r, 1 + u⟩, hp, hd, by dsimp only; omega, by dsimp only; omega, by dsimp only; omega, by dsimp only; omega, by dsimp only; omega, by dsimp only; omega, rfl, hD.1, hD.2.1⟩
     ·have hm : (Instr.makeSlice 22 (.int .i64 61) (.int .i64 61)).run Tryz.prog v27 = .ok (.slice (some ⟨v27.heap.size, 0, none⟩) 61 61) (v27.alloc (.cells (madeCells #[.int .u8 0] 61) 5)) := zr1 61 (by omega) v27
      have hc := zr4 61 v27
      have hd : (⟨(List.replicate 61 (0 : UInt8)).toArray⟩ : ByteArray).size ≤ 100 := by decide
      have H := H.alloc (.cells (madeCells #[.int .u8 0] 61) 5)
      generalize (⟨(List.replicate 61 (0 : UInt8)).toArray⟩ : ByteArray) = D at hc hd
      generalize v27.alloc (.cells (madeCells #[.int .u8 0] 61) 5) = WM at hm hc H
      clear f3 d3
      have f3 := H.one.fr
      have d3 := H.one.cell
      have K := H.put2 (D)
      have f4 := K.one.fr
      have d4 := K.one.cell
      have f2 := K.two.fr
      have d2 := K.two.cell
      have hX := K.hi
      have hD := K.done
      go_wp2
      have q := hD.2.2.cell
      refine bodyPost_ret (v := .agg #[.string p, .int .i64 (1), .string D, .int .i64 (r), .int .i64 (1 + u)]) (by simp [results, Tryz.results74, go_sem, q]) rfl ⟨⟨p, 1, D, r, 1 + u⟩, hp, hd, by dsimp only; omega, by dsimp only; omega, by dsimp only; omega, by dsimp only; omega, by dsimp only; omega, by dsimp only; omega, rfl, hD.1, hD.2.1⟩
    ·go_wp2_with fail
     have hl := H.lt
     refine (zn9 S v23.heap.size 3 [⟨#[]⟩, ⟨#[65]⟩, ⟨#[97, 47]⟩] a len cap (v23.alloc (.cells (([⟨#[]⟩, ⟨#[65]⟩, ⟨#[97, 47]⟩] : List ByteArray).map Value.string).toArray 9)) (H.alloc _).src (by simp) (by simp) (by omega) (zm5 v23 [⟨#[]⟩, ⟨#[65]⟩, ⟨#[97, 47]⟩] _)).mono ?_
     rintro e v28 ⟨y, hm, rfl, sN, gN⟩
     have hy : y.size ≤ 2 := by
      simp only [List.mem_cons, List.not_mem_nil, or_false] at hm
      rcases hm with rfl | rfl | rfl <;> decide
     have H := (H.alloc _).call sN gN
     clear sN gN hm f3 d3
     have f3 := H.one.fr
     have d3 := H.one.cell
     have hp : y.size ≤ 40 := by omega
     have K := H.put0 (y)
     have f4 := K.one.fr
     have d4 := K.one.cell
     have f2 := K.two.fr
     have d2 := K.two.cell
     have hX := K.hi
     have hD := K.done
     go_wp2
     have q := hD.2.2.cell
     refine bodyPost_ret (v := .agg #[.string y, .int .i64 (1), .string ⟨#[]⟩, .int .i64 (r), .int .i64 (1 + u)]) (by simp [results, Tryz.results74, go_sem, q]) rfl ⟨⟨y, 1, ⟨#[]⟩, r, 1 + u⟩, hp, hd, by dsimp only; omega, by dsimp only; omega, by dsimp only; omega, by dsimp only; omega, by dsimp only; omega, by dsimp only; omega, rfl, hD.1, hD.2.1⟩
 ·go_wp2_with fail
  have H : Nk w (w4.alloc (.cells #[.string p, .int .i64 2, .string ⟨#[]⟩, .int .i64 0, .int .i64 0] 88)) S a len cap w4.heap.size p 2 ⟨#[]⟩ 0 0 := ⟨hS, hlt, zh6 s4 _, G4.trans (World.grownBy_alloc w4 _ (some S)), B2.alloc _, Mem.Blk.new w4 _ _⟩
  generalize w4.alloc (.cells #[.string p, .int .i64 2, .string ⟨#[]⟩, .int .i64 0, .int .i64 0] 88) = W5 at H ⊢
  generalize w4.heap.size = X at H ⊢
  clear c0 s4 G4 B2 hlt
  refine (zc9 S a len cap 50 _ H.src (by omega)).mono ?_
  rintro e v29 ⟨r, rfl, r0, r1, sN, gN⟩
  have H := H.call sN gN
  clear sN gN
  have f3 := H.one.fr
  have d3 := H.one.cell
  have K := H.put3 r
  have hz : (v29.setCell ⟨X, 3, none⟩ (.int .i64 r)).heap.size = v29.heap.size := by rw [World.size_setCell]
  go_wp2_with fail
  rw [← hz]
  have H := K
  clear K hz f3 d3
  generalize v29.setCell ⟨X, 3, none⟩ (.int .i64 r) = Wp at H ⊢
  have f3 := H.one.fr
  have d3 := H.one.cell
  have hl := H.lt
  refine (zn9 S Wp.heap.size 3 [⟨#[]⟩, ⟨#[120]⟩, ⟨#[121, 121]⟩] a len cap (Wp.alloc (.cells (([⟨#[]⟩, ⟨#[120]⟩, ⟨#[121, 121]⟩] : List ByteArray).map Value.string).toArray 9)) (H.alloc _).src (by simp) (by simp) (by omega) (zm5 Wp [⟨#[]⟩, ⟨#[120]⟩, ⟨#[121, 121]⟩] _)).mono ?_
  rintro e v30 ⟨dd, hm, rfl, sN, gN⟩
  have hy : dd.size ≤ 2 := by
   simp only [List.mem_cons, List.not_mem_nil, or_false] at hm
   rcases hm with rfl | rfl | rfl <;> decide
  have H := (H.alloc _).call sN gN
  clear sN gN hm f3 d3
  have f3 := H.one.fr
  have d3 := H.one.cell
  have hd : dd.size ≤ 100 := by omega
  go_wp2_with fail
  have H := H.put2 (dd)
  clear f3 d3
  generalize v30.setCell ⟨X, 2, none⟩ (.string dd) = v31 at H ⊢
  clear hy hl
  refine (zh5 S a len cap 25 _ H.src (by omega)).mono ?_
  rintro e v32 ⟨b, rfl, sN, gN⟩
  have H := H.call sN gN
  clear sN gN
  have f3 := H.one.fr
  have d3 := H.one.cell
  cases b
  ·have f2 := H.two.fr
   have d2 := H.two.cell
   have hX := H.hi
   have hD := H.done
   go_wp2
   have q := hD.2.2.cell
   refine bodyPost_ret (v := .agg #[.string p, .int .i64 (2), .string dd, .int .i64 (r), .int .i64 (0)]) (by simp [results, Tryz.results74, go_sem, q]) rfl ⟨⟨p, 2, dd, r, 0⟩, hp, hd, by dsimp only; omega, by dsimp only; omega, by dsimp only; omega, by dsimp only; omega, by dsimp only; omega, by dsimp only; omega, rfl, hD.1, hD.2.1⟩
  ·go_wp2_with fail
   clear f3 d3
   refine (zc9 S a len cap 5 _ H.src (by omega)).mono ?_
   rintro e v33 ⟨q, rfl, q0, q1, sN, gN⟩
   have H := H.call sN gN
   clear sN gN
   have f3 := H.one.fr
   have d3 := H.one.cell
   have q2 : q = 0 ∨ q = 1 ∨ q = 2 ∨ q = 3 ∨ q = 4 := by omega
   clear q0 q1
   rcases q2 with rfl | rfl | rfl | rfl | rfl
   ·go_wp2_with fail
    clear f3 d3
    refine (zc9 S a len cap 5 _ H.src (by omega)).mono ?_
    rintro e v34 ⟨y, rfl, y0, y1, sN, gN⟩
    have H := H.call sN gN
    clear sN gN
    have f3 := H.one.fr
    have d3 := H.one.cell
    have hw : IntKind.i64.wrap (y - 1) = y - 1 := by rw [IntKind.wrap_i64]; omega
    have K := H.put1 (y - 1)
    have f4 := K.one.fr
    have d4 := K.one.cell
    have f2 := K.two.fr
    have d2 := K.two.cell
    have hX := K.hi
    have hD := K.done
    go_wp2
    have q := hD.2.2.cell
    refine bodyPost_ret (v := .agg #[.string p, .int .i64 (y - 1), .string dd, .int .i64 (r), .int .i64 (0)]) (by simp [results, Tryz.results74, go_sem, q]) rfl ⟨⟨p, y - 1, dd, r, 0⟩, hp, hd, by dsimp only; omega, by dsimp only; omega, by dsimp only; omega, by dsimp only; omega, by dsimp only; omega, by dsimp only; omega, rfl, hD.1, hD.2.1⟩
   ·go_wp2_with fail
    have hl := H.lt
    refine (zc9 S a len cap 4 _ (H.alloc _).src (by omega)).mono ?_
    rintro e v35 ⟨r, rfl, r0, r1, sN, gN⟩
    obtain ⟨j, rfl⟩ : ∃ j : Nat, r = (j : Int) := ⟨r.toNat, by omega⟩
    obtain ⟨y, hy, y0, y1⟩ := zp0 [-1, 0, 8, 9] (-1) 9 (by decide) (k := j) (by simp; omega)
    have cj := zm7 [-1, 0, 8, 9] hl gN hy
    have uj : (j : Int) < 4 := by omega
    have H := (H.alloc _).call sN gN
    clear sN gN hy r0 r1 f3 d3
    have f3 := H.one.fr
    have d3 := H.one.cell
    have K := H.put4 (y)
    have f4 := K.one.fr
    have d4 := K.one.cell
    have f2 := K.two.fr
    have d2 := K.two.cell
    have hX := K.hi
    have hD := K.done
    go_wp2
    have q := hD.2.2.cell
    refine bodyPost_ret (v := .agg #[.string p, .int .i64 (2), .string dd, .int .i64 (r), .int .i64 (y)]) (by simp [results, Tryz.results74, go_sem, q]) rfl ⟨⟨p, 2, dd, r, y⟩, hp, hd, by dsimp only; omega, by dsimp only; omega, by dsimp only; omega, by dsimp only; omega, by dsimp only; omega, by dsimp only; omega, rfl, hD.1, hD.2.1⟩
   ·go_wp2_with fail
    have hl := H.lt
    refine (zc9 S a len cap 3 _ (H.alloc _).src (by omega)).mono ?_
    rintro e v36 ⟨r, rfl, r0, r1, sN, gN⟩
    obtain ⟨j, rfl⟩ : ∃ j : Nat, r = (j : Int) := ⟨r.toNat, by omega⟩
    obtain ⟨y, hy, y0, y1⟩ := zp0 [-1, 1000000, 1000001] (-1) 1000001 (by decide) (k := j) (by simp; omega)
    have cj := zm7 [-1, 1000000, 1000001] hl gN hy
    have uj : (j : Int) < 3 := by omega
    have H := (H.alloc _).call sN gN
    clear sN gN hy r0 r1 f3 d3
    have f3 := H.one.fr
    have d3 := H.one.cell
    have K := H.put3 (y)
    have f4 := K.one.fr
    have d4 := K.one.cell
    have f2 := K.two.fr
    have d2 := K.two.cell
    have hX := K.hi
    have hD := K.done
    go_wp2
    have q := hD.2.2.cell
    refine bodyPost_ret (v := .agg #[.string p, .int .i64 (2), .string dd, .int .i64 (y), .int .i64 (0)]) (by simp [results, Tryz.results74, go_sem, q]) rfl ⟨⟨p, 2, dd, y, 0⟩, hp, hd, by dsimp only; omega, by dsimp only; omega, by dsimp only; omega, by dsimp only; omega, by dsimp only; omega, by dsimp only; omega, rfl, hD.1, hD.2.1⟩
   ·go_wp2_with fail
    clear f3 d3
    refine (zc9 S a len cap 2 _ H.src (by omega)).mono ?_
    rintro e v37 ⟨y, rfl, y0, y1, sN, gN⟩
    have H := H.call sN gN
    clear sN gN
    have f3 := H.one.fr
    have d3 := H.one.cell
    have y2 : y = 0 ∨ y = 1 := by omega
    clear y0 y1 hd
    rcases y2 with rfl | rfl
    ·have hm : (Instr.makeSlice 22 (.int .i64 60) (.int .i64 60)).run Tryz.prog v37 = .ok (.slice (some ⟨v37.heap.size, 0, none⟩) 60 60) (v37.alloc (.cells (madeCells #[.int .u8 0] 60) 5)) := zr1 60 (by omega) v37
     have hc := zr4 60 v37
     have hd : (⟨(List.replicate 60 (0 : UInt8)).toArray⟩ : ByteArray).size ≤ 100 := by decide
     have H := H.alloc (.cells (madeCells #[.int .u8 0] 60) 5)
     generalize (⟨(List.replicate 60 (0 : UInt8)).toArray⟩ : ByteArray) = D at hc hd
     generalize v37.alloc (.cells (madeCells #[.int .u8 0] 60) 5) = WM at hm hc H
     clear f3 d3
     have f3 := H.one.fr
     have d3 := H.one.cell
     have K := H.put2 (D)
     have f4 := K.one.fr
     have d4 := K.one.cell
     have f2 := K.two.fr
     have d2 := K.two.cell
     have hX := K.hi
     have hD := K.done
     go_wp2
     have q := hD.2.2.cell
     refine bodyPost_ret (v := .agg #[.string p, .int .i64 (2), .string D, .int .i64 (r), .int .i64 (0)]) (by simp [results, Tryz.results74, go_sem, q]) rfl ⟨⟨p, 2, D, r, 0⟩, hp, hd, by dsimp only; omega, by dsimp only; omega, by dsimp only; omega, by dsimp only; omega, by dsimp only; omega, by dsimp only; omega, rfl, hD.1, hD.2.1⟩
    ·have hm : (Instr.makeSlice 22 (.int .i64 61) (.int .i64 61)).run Tryz.prog v37 = .ok (.slice (some ⟨v37.heap.size, 0, none⟩) 61 61) (v37.alloc (.cells (madeCells #[.int .u8 0] 61) 5)) := zr1 61 (by omega) v37
     have hc := zr4 61 v37
     have hd : (⟨(List.replicate 61 (0 : UInt8)).toArray⟩ : ByteArray).size ≤ 100 := by decide
     have H := H.alloc (.cells (madeCells #[.int .u8 0] 61) 5)
     generalize (⟨(List.replicate 61 (0 : UInt8)).toArray⟩ : ByteArray) = D at hc hd
     generalize v37.alloc (.cells (madeCells #[.int .u8 0] 61) 5) = WM at hm hc H
     clear f3 d3
     have f3 := H.one.fr
     have d3 := H.one.cell
     have K := H.put2 (D)
     have f4 := K.one.fr
     have d4 := K.one.cell
     have f2 := K.two.fr
     have d2 := K.two.cell
     have hX := K.hi
     have hD := K.done
     go_wp2
     have q := hD.2.2.cell
     refine bodyPost_ret (v := .agg #[.string p, .int .i64 (2), .string D, .int .i64 (r), .int .i64 (0)]) (by simp [results, Tryz.results74, go_sem, q]) rfl ⟨⟨p, 2, D, r, 0⟩, hp, hd, by dsimp only; omega, by dsimp only; omega, by dsimp only; omega, by dsimp only; omega, by dsimp only; omega, by dsimp only; omega, rfl, hD.1, hD.2.1⟩
   ·go_wp2_with fail
    have hl := H.lt
    refine (zn9 S v33.heap.size 3 [⟨#[]⟩, ⟨#[65]⟩, ⟨#[97, 47]⟩] a len cap (v33.alloc (.cells (([⟨#[]⟩, ⟨#[65]⟩, ⟨#[97, 47]⟩] : List ByteArray).map Value.string).toArray 9)) (H.alloc _).src (by simp) (by simp) (by omega) (zm5 v33 [⟨#[]⟩, ⟨#[65]⟩, ⟨#[97, 47]⟩] _)).mono ?_
    rintro e v38 ⟨y, hm, rfl, sN, gN⟩
    have hy : y.size ≤ 2 := by
     simp only [List.mem_cons, List.not_mem_nil, or_false] at hm
     rcases hm with rfl | rfl | rfl <;> decide
    have H := (H.alloc _).call sN gN
    clear sN gN hm f3 d3
    have f3 := H.one.fr
    have d3 := H.one.cell
    have hp : y.size ≤ 40 := by omega
    have K := H.put0 (y)
    have f4 := K.one.fr
    have d4 := K.one.cell
    have f2 := K.two.fr
    have d2 := K.two.cell
    have hX := K.hi
    have hD := K.done
    go_wp2
    have q := hD.2.2.cell
    refine bodyPost_ret (v := .agg #[.string y, .int .i64 (2), .string dd, .int .i64 (r), .int .i64 (0)]) (by simp [results, Tryz.results74, go_sem, q]) rfl ⟨⟨y, 2, dd, r, 0⟩, hp, hd, by dsimp only; omega, by dsimp only; omega, by dsimp only; omega, by dsimp only; omega, by dsimp only; omega, by dsimp only; omega, rfl, hD.1, hD.2.1⟩
end WSrc
end Go.Proofs.YtioildojmckepaaGreatDoor
