/-
  Tiles: which can be, how long their sides are, where they lie. Plain mathematics.
  Contracts of TileOk and TileBox, in the program and in its model: for every tile.
  What the model draws as a box: any box.
  What the model draws for InBox and for Nearest: any row, any box, any point.
-/
import Derived.Test.YtkinpfnelmdmlaaDoorMem
import Derived.Test.YtkinpfnelmdmlaaDoorInbC
import Derived.Test.YtkinpfnelmdmlaaDoorXA
import Derived.Deep.RegionHeld3
import Derived.Deep.DeepCutAuto
namespace Go.Proofs.YtkinpfnelmdmlaaDoor

def zmB (z : Int) : Bool := decide (0 ≤ z) && decide (z ≤ 10)
/-- How many tiles a zoom has along, and how long a side is. -/
def zN (z : Int) : Nat := 2 ^ z.toNat
def zS (z : Int) : Nat := 2 ^ (25 - z.toNat)
def tilB (z x y : Int) : Bool := zmB z && (decide (0 ≤ x) && (decide (x < zN z) && (decide (0 ≤ y) && decide (y < zN z))))
theorem zm_out {z : Int} (h : zmB z = true) : ∃ Z : Nat, z = Z ∧ Z ≤ 10 := by
  simp only [zmB, Bool.and_eq_true, decide_eq_true_eq] at h
  exact ⟨z.toNat, by omega, by omega⟩
theorem zm_of {Z : Nat} (h : Z ≤ 10) : zmB (Z : Int) = true := by
  simp only [zmB, Bool.and_eq_true, decide_eq_true_eq]; omega
theorem zN_nat (Z : Nat) : zN (Z : Int) = 2 ^ Z := by simp [zN]
theorem zS_nat (Z : Nat) : zS (Z : Int) = 2 ^ (25 - Z) := by simp [zS]
theorem z_cases {Z : Nat} (h : Z ≤ 10) : Z = 0 ∨ Z = 1 ∨ Z = 2 ∨ Z = 3 ∨ Z = 4 ∨ Z = 5 ∨ Z = 6 ∨ Z = 7 ∨ Z = 8 ∨ Z = 9 ∨ Z = 10 := by omega
theorem zNS {z : Int} (h : zmB z = true) : zN z * zS z = 33554432 ∧ 0 < zS z ∧ 0 < zN z ∧ zN z ≤ 1024 ∧ 32768 ≤ zS z ∧ zS z ≤ 33554432 := by
  obtain ⟨Z, rfl, hZ⟩ := zm_out h
  rw [zN_nat, zS_nat]
  rcases z_cases hZ with rfl | rfl | rfl | rfl | rfl | rfl | rfl | rfl | rfl | rfl | rfl <;> decide
theorem zS_div {Z : Nat} (h : Z ≤ 10) : (33554432 : Int) / 2 ^ Z = (zS (Z : Int) : Int) := by
  rw [zS_nat]
  rcases z_cases h with rfl | rfl | rfl | rfl | rfl | rfl | rfl | rfl | rfl | rfl | rfl <;> decide
theorem zN_int (Z : Nat) : ((2 : Int) ^ Z) = (zN (Z : Int) : Int) := by rw [zN_nat]; simp
theorem til_out {z x y : Int} (h : tilB z x y = true) : zmB z = true ∧ 0 ≤ x ∧ x < zN z ∧ 0 ≤ y ∧ y < zN z := by
  simp only [tilB, Bool.and_eq_true, decide_eq_true_eq] at h
  exact h
/-- What a tile's number times its side is. -/
theorem til_mul {z x : Int} (h : zmB z = true) (h0 : 0 ≤ x) (h1 : x < zN z) : 0 ≤ x * zS z ∧ x * zS z + zS z ≤ 33554432 := by
  obtain ⟨e, s0, _⟩ := zNS h
  have a0 : 0 ≤ x * zS z := Int.mul_nonneg h0 (by omega)
  have a1 : (x + 1) * zS z ≤ (zN z : Int) * zS z := Int.mul_le_mul_of_nonneg_right (by omega) (by omega)
  have a2 : (x + 1) * (zS z : Int) = x * zS z + zS z := by rw [Int.add_mul, Int.one_mul]
  have a3 : (zN z : Int) * zS z = 33554432 := by rw [← Int.natCast_mul, e]; rfl
  omega
/-- A tile's box: its first numbers; how long it is. -/
def tbA (z x : Int) : Int := x * zS z - 16777216
theorem tbA_bd {z x : Int} (h : zmB z = true) (h0 : 0 ≤ x) (h1 : x < zN z) : -16777216 ≤ tbA z x ∧ tbA z x + zS z ≤ 16777216 := by
  have := til_mul h h0 h1
  unfold tbA
  omega
/-- The first and the last tile along that have a coordinate. -/
def tlW (z lo : Int) : Int := (lo + 16777215) / zS z
def tlE (z hi : Int) : Int := (hi + 16777216) / zS z
end Go.Proofs.YtkinpfnelmdmlaaDoor

namespace Go.Proofs.YtkinpfnelmdmlaaDoor
open Go.RowKit

/-- A tile as a value. -/
abbrev til (z x y : Int) : Value := .agg #[.int .i64 z, .int .i64 x, .int .i64 y]
/-- A box as a value. -/
abbrev bxv (q : BoxD) : Value := .agg #[.int .i64 q.a, .int .i64 q.b, .int .i64 q.c, .int .i64 q.d]
/-- The box of a tile. -/
def tbx (z x y : Int) : BoxD := if tilB z x y = true then ⟨tbA z x, tbA z y, tbA z x + zS z, tbA z y + zS z⟩ else ⟨0, 0, 0, 0⟩
theorem tbx_no {z x y : Int} (h : tilB z x y = false) : tbx z x y = ⟨0, 0, 0, 0⟩ := if_neg (by rw [h]; exact Bool.false_ne_true)
theorem tbx_yes {z x y : Int} (h : tilB z x y = true) : tbx z x y = ⟨tbA z x, tbA z y, tbA z x + zS z, tbA z y + zS z⟩ := if_pos h

end Go.Proofs.YtkinpfnelmdmlaaDoor

namespace Go.Proofs.YtkinpfnelmdmlaaDoor
open Go.RowKit

abbrev zer4 : List Value := [.int .i64 0, .int .i64 0, .int .i64 0, .int .i64 0]
theorem Blk.only {w w' : World} {B g : Nat} {vs : List Value} (h : Blk w g vs) (o : OnlyB w B w') (hn : g ≠ B) : Blk w' g vs :=
  ⟨Nat.lt_of_lt_of_le h.lt o.size, fun j hj => (o.cell g j h.lt hn).trans (h.cell j hj), fun j => (o.froz g j h.lt hn).trans (h.free j)⟩
theorem Drawn.drwB {w0 w : World} {B : Nat} {a : Option Addr} {n c : Nat} {v : World} (h : Drawn w0 w B a n c v) : Drawn w0 w B a n c v.drew := h.bel (Bel.drew (Bel.refl _))
theorem Drawn.alcB {w0 w : World} {B : Nat} {a : Option Addr} {n c : Nat} {v : World} (h : Drawn w0 w B a n c v) (o : Obj) : Drawn w0 w B a n c (v.alloc o) := h.bel (bel_alloc (Bel.refl _) _)
theorem below_to {w0 w v : World} {B : Nat} {a : Option Addr} {n c : Nat} (D : Drawn w0 w B a n c v) (hB : w0.heap.size ≤ B) (hS : Bts w0 a n) (hn : n ≤ 1048576) (m : Int) (m0 : 0 < m) (m1 : m ≤ 9223372036854775807) :
    Calls Tryd.prog 25 #[.pointer (some ⟨B, 0, none⟩), .int .i64 m] v fun e w' => ∃ x : Int, e = .returned (.int .i64 x) ∧ Drawn w0 w B a n c w' ∧ OnlyB v B w' :=
  (below_any B a n c w0 v D.b hB D.k hS hn m m0 m1).mono fun _ _ ⟨x, e, _, d⟩ => ⟨x, e, D.then d, d.o⟩
/-- Where the box that is being made lies. -/
structure Vx (b : World) (w : World) (g : Nat) : Prop where
  x : Blk w g zer4
  lo : b.heap.size ≤ g
theorem Vx.new {b W w : World} {B : Nat} {t : TypeId} (hl : b.heap.size ≤ W.heap.size) (hB : B < b.heap.size) (h : OnlyB (W.alloc (.cells #[.int .i64 0, .int .i64 0, .int .i64 0, .int .i64 0] t)) B w) : Vx b w W.heap.size := ⟨(Blk.new W zer4 t).only h (by omega), hl⟩
theorem Vx.on {b w w' : World} {B g : Nat} (h : Vx b w g) (hB : B < b.heap.size) (o : OnlyB w B w') : Vx b w' g := ⟨h.x.only o (by have := h.lo; omega), h.lo⟩
theorem Vx.cs {b w : World} {g : Nat} (h : Vx b w g) : w.cell? ⟨g, 0, none⟩ = some (.int .i64 0) ∧ w.cell? ⟨g, 1, none⟩ = some (.int .i64 0) ∧ w.cell? ⟨g, 2, none⟩ = some (.int .i64 0) ∧ w.cell? ⟨g, 3, none⟩ = some (.int .i64 0) ∧ w.frozen? ⟨g, 0, none⟩ = false ∧ w.frozen? ⟨g, 1, none⟩ = false ∧ w.frozen? ⟨g, 2, none⟩ = false ∧ w.frozen? ⟨g, 3, none⟩ = false :=
  ⟨h.x.cell 0 (by simp), h.x.cell 1 (by simp), h.x.cell 2 (by simp), h.x.cell 3 (by simp), h.x.free 0, h.x.free 1, h.x.free 2, h.x.free 3⟩
theorem Drawn.setX {w0 b v : World} {B g : Nat} {a : Option Addr} {n c : Nat} (h0 : w0.heap.size ≤ b.heap.size) (hB : B < b.heap.size) (hg : b.heap.size ≤ g) (h : Drawn w0 b B a n c v) (o : Nat) (u : Value) : Drawn w0 b B a n c (v.setCell ⟨g, o, none⟩ u) := h.far (by omega) hg (by omega) o u
structure CutX (w0 b : World) (B : Nat) (a : Option Addr) (n c : Nat) (t : Value) (w : World) : Prop where
  out : ∃ (g : Nat) (x y z u : Int), t = .pointer (some ⟨g, 0, none⟩) ∧ b.heap.size ≤ g ∧ Blk w g [.int .i64 x, .int .i64 y, .int .i64 z, .int .i64 u] ∧ Drawn w0 b B a n c w
theorem CutX.put {w0 b w : World} {B : Nat} {a : Option Addr} {n c g : Nat} {x y z u : Int} (h : Vx b w g) (D : Drawn w0 b B a n c w) (h0 : w0.heap.size ≤ b.heap.size) (hB : B < b.heap.size) :
    CutX w0 b B a n c (.pointer (some ⟨g, 0, none⟩)) ((((w.setCell ⟨g, 0, none⟩ (.int .i64 x)).setCell ⟨g, 1, none⟩ (.int .i64 y)).setCell ⟨g, 2, none⟩ (.int .i64 z)).setCell ⟨g, 3, none⟩ (.int .i64 u)) := by
  have hl := h.lo
  have k0 : w0.heap.size ≤ g := by omega
  have k1 : g ≠ B := by omega
  exact ⟨g, x, y, z, u, rfl, hl, (((h.x.set 0 _ (by simp)).set 1 _ (by simp)).set 2 _ (by simp)).set 3 _ (by simp), (((D.far k0 hl k1 _ _).far k0 hl k1 _ _).far k0 hl k1 _ _).far k0 hl k1 _ _⟩
theorem CutX.fresh {w0 b w : World} {B : Nat} {a : Option Addr} {n c : Nat} {x y z u : Int} {t : TypeId} (D : Drawn w0 b B a n c w) :
    CutX w0 b B a n c (.pointer (some ⟨w.heap.size, 0, none⟩)) (w.alloc (.cells #[.int .i64 x, .int .i64 y, .int .i64 z, .int .i64 u] t)) :=
  ⟨w.heap.size, x, y, z, u, rfl, D.o.size, Blk.new w [.int .i64 x, .int .i64 y, .int .i64 z, .int .i64 u] t, D.alcB _⟩

set_option maxRecDepth 100000 in
set_option maxHeartbeats 2000000 in
theorem drawBox_any (B : Nat) (a : Option Addr) (n c : Nat) (w0 w : World) (hb : Bel w0 w) (hB : w0.heap.size ≤ B) (hC : Cur w B a n c) (hS : Bts w0 a n) (hn : n ≤ 1048576) :
    Calls Tryd.prog 18 #[.pointer (some ⟨B, 0, none⟩)] w fun e w' => ∃ q : BoxD, e = .returned (bxv q) ∧ Drawn w0 w B a n c w' := by
  obtain ⟨W, HW⟩ : ∃ W, Hid (W = w.alloc (.cells #[.int .i64 0, .int .i64 0, .int .i64 0, .int .i64 0] 28)) := ⟨_, (rfl : w.alloc (.cells #[.int .i64 0, .int .i64 0, .int .i64 0, .int .i64 0] 28) = _)⟩
  have hW : Bel w W := by rw [HW.out]; exact bel_alloc (Bel.refl _) _
  have Z0 : Blk W w.heap.size zer4 := by rw [HW.out]; exact Blk.new w zer4 _
  have hlt := hC.lt
  have hw0 := hb.out.size
  have hRB : w.heap.size ≠ B := by omega
  have D0 : Drawn w0 W B a n c W := ⟨bel_step hb hW, OnlyB.refl _ _, hC.bel hW⟩
  go_enter Tryd.func18, Tryd.ntmps18
  go_wp2_with fail
  rw [← HW.out]
  refine (drawPoint_any B a n c w0 W D0.b hB D0.k hS hn).mono ?_
  rintro e w1 ⟨x, y, rfl, d1⟩
  obtain ⟨V, HV⟩ : ∃ V, Hid (V = w1.alloc (.cells #[.int .i64 x, .int .i64 y] 26)) := ⟨_, (rfl : w1.alloc (.cells #[.int .i64 x, .int .i64 y] 26) = _)⟩
  have D1 : Hid (Drawn w0 W B a n c V) := by rw [HV.out]; exact (D0.then d1).alcB _
  have P1 : Blk V w1.heap.size [.int .i64 x, .int .i64 y] := by rw [HV.out]; exact Blk.new w1 [.int .i64 x, .int .i64 y] _
  have h1B : w1.heap.size ≠ B := by have := d1.k.lt; omega
  have DV : Drawn w0 V B a n c V := ⟨D1.out.b, OnlyB.refl _ _, D1.out.k⟩
  have hVB : B < V.heap.size := D1.out.k.lt
  have hV0 : w0.heap.size ≤ V.heap.size := D1.out.b.out.size
  clear d1 D0
  have hR : ∀ v, Drawn w0 V B a n c v → v.cell? ⟨w1.heap.size, 0, none⟩ = some (.int .i64 x) ∧ v.cell? ⟨w1.heap.size, 1, none⟩ = some (.int .i64 y) := fun v h => by
    have p := P1.only h.o h1B
    exact ⟨p.cell 0 (by simp), p.cell 1 (by simp)⟩
  go_wp2
  rw [← HV.out]
  go_cut [4] (fun t wx => CutX w0 V B a n c t wx)
  case first =>
    go_region_held3 (fun w' => w'.cell? ⟨w1.heap.size, 0, none⟩ = some (.int .i64 x) ∧ w'.cell? ⟨w1.heap.size, 1, none⟩ = some (.int .i64 y))
      (exact hR _ (by with_reducible (repeat (first | assumption | refine Drawn.drwB ?_ | refine Drawn.alcB ?_ _ | refine Drawn.setX hV0 hVB hz.lo ?_ _ _))))
      (first
        | (go_at_call 25; refine (fun hchk : True ∧ _ => ?_) ⟨trivial, hDa⟩; refine (below_to (w0 := w0) (w := V) (B := B) (a := a) (n := n) (c := c) (v := _) (by with_reducible (repeat (first | assumption | refine Drawn.drwB ?_ | refine Drawn.alcB ?_ _))) hB hS hn 40 (by decide) (by decide)).mono ?_; rintro e wb ⟨xb, rfl, hDb, hOb⟩; (first | (refine (fun hz : Vx V wb wa.heap.size => ?_) (Vx.new (W := wa) hDa.o.size hVB hOb)) | (refine (fun hz : Vx V wb _ => ?_) (Vx.on hqa hVB hOb)) | skip); (first | (refine (fun hcs : _ ∧ _ => ?_) (Vx.cs hz)) | skip))
        | (go_at_call 25; refine (below_to (w0 := w0) (w := V) (B := B) (a := a) (n := n) (c := c) (v := _) (by with_reducible (repeat (first | assumption | refine Drawn.drwB ?_ | refine Drawn.alcB ?_ _))) hB hS hn 40 (by decide) (by decide)).mono ?_; rintro e wa ⟨xa, rfl, hDa, hOa⟩; (first | (refine (fun hqa : Vx V wa V.heap.size => ?_) (Vx.new (W := V.drew) (Nat.le_refl _) hVB hOa)) | skip)))
    all_goals
      go_wp2_with fail
      go_meet
      case rel => first | exact CutX.put hz hDb hV0 hVB | exact CutX.fresh hDb
  case rest =>
    clear hR DV
    obtain ⟨g, x0, y0, x1, y1, rfl, hg, Kg, Dc⟩ := hcut.out
    obtain ⟨wA, rfl⟩ : ∃ V, V = wc := ⟨_, rfl⟩
    have DA : Hid (Drawn w0 W B a n c wA) := D1.out.then Dc
    have hgW : W.heap.size ≤ g := Nat.le_trans D1.out.o.size hg
    have hg0 : w0.heap.size ≤ g := by omega
    have hgB : g ≠ B := by omega
    have hgw : ¬ g = w.heap.size := by have := Z0.lt; omega
    have hgw' : ¬ w.heap.size = g := fun e => hgw e.symm
    clear Dc D1 hcut P1 HV
    go_wp2_with fail
    refine (once_any B a n c w0 wA DA.out.b hB DA.out.k hS hn 4 (by decide) (by decide)).mono ?_
    rintro e w5 ⟨t, rfl, d5⟩
    have D5 : Hid (Drawn w0 W B a n c w5) := DA.out.then d5
    have K5 := Kg.only d5.o hgB
    clear d5 DA Kg
    cases t
    · have k0 := K5.cell 0 (by simp)
      have k1 := K5.cell 1 (by simp)
      have k2 := K5.cell 2 (by simp)
      have k3 := K5.cell 3 (by simp)
      have Y := Z0.only D5.out.o hRB
      have z0 := Y.cell 0 (by simp)
      have z1 := Y.cell 1 (by simp)
      have z2 := Y.cell 2 (by simp)
      have z3 := Y.cell 3 (by simp)
      have f0 := Y.free 0
      have f1 := Y.free 1
      have f2 := Y.free 2
      have f3 := Y.free 3
      simp only [List.getElem_cons_zero, List.getElem_cons_succ] at k0 k1 k2 k3 z0 z1 z2 z3
      go_wp2
      exact bodyPost_ret (v := bxv ⟨x0, y0, x1, y1⟩) (by simp [results, Tryd.results18, go_sem, z0, z1, z2, z3]) rfl ⟨⟨x0, y0, x1, y1⟩, rfl, ((((D5.out.from hW).far hw0 (Nat.le_refl _) hRB _ _).far hw0 (Nat.le_refl _) hRB _ _).far hw0 (Nat.le_refl _) hRB _ _).far hw0 (Nat.le_refl _) hRB _ _⟩
    · go_wp2_with fail
      refine (drawPoint_any B a n c w0 w5 D5.out.b hB D5.out.k hS hn).mono ?_
      rintro e w6 ⟨x2, y2, rfl, d6⟩
      have D6 : Hid (Drawn w0 W B a n c w6) := D5.out.then d6
      have K6 := K5.only d6.o hgB
      clear d6 D5 K5
      have k0 := K6.cell 0 (by simp)
      have k1 := K6.cell 1 (by simp)
      have k2 := K6.cell 2 (by simp)
      have k3 := K6.cell 3 (by simp)
      have g2 := K6.free 2
      have g3 := K6.free 3
      have Y := Z0.only D6.out.o hRB
      have z0 := Y.cell 0 (by simp)
      have z1 := Y.cell 1 (by simp)
      have z2 := Y.cell 2 (by simp)
      have z3 := Y.cell 3 (by simp)
      have f0 := Y.free 0
      have f1 := Y.free 1
      have f2 := Y.free 2
      have f3 := Y.free 3
      simp only [List.getElem_cons_zero, List.getElem_cons_succ] at k0 k1 k2 k3 z0 z1 z2 z3
      have D7 := ((D6.out.far hg0 hgW hgB 2 (.int .i64 x2)).far hg0 hgW hgB 3 (.int .i64 y2)).from hW
      go_wp2
      exact bodyPost_ret (v := bxv ⟨x0, y0, x2, y2⟩) (by simp [results, Tryd.results18, go_sem, z0, z1, z2, z3]) rfl ⟨⟨x0, y0, x2, y2⟩, rfl, (((D7.far hw0 (Nat.le_refl _) hRB _ _).far hw0 (Nat.le_refl _) hRB _ _).far hw0 (Nat.le_refl _) hRB _ _).far hw0 (Nat.le_refl _) hRB _ _⟩
end Go.Proofs.YtkinpfnelmdmlaaDoor

namespace Go.Proofs.YtkinpfnelmdmlaaDoor
open Go.RowKit

theorem setG (w : World) (g o : Nat) (u : Value) : w.grownBy (w.setCell ⟨g, o, none⟩ u) (some g) :=
  ⟨rfl, rfl, rfl, by simp, fun k _ hk => heap_setCell_other w ⟨g, o, none⟩ k u (fun e => hk (by simp [e]))⟩
theorem drewG (w : World) (r : Option Nat) : w.grownBy w.drew r := ⟨rfl, rfl, rfl, Nat.le_refl _, fun _ _ _ => rfl⟩
theorem own_far {w w' : World} {base e sz k C : Nat} {v : Value} {xs : List Value} (h : w.ownsRow base e sz v k xs) (hg : w.grownBy w' (some C)) (hC : C < base) : w'.ownsRow base e sz v k xs :=
  h.kept hg (.inr fun e => by have := (h.lt _ e).1; omega)
theorem bel_far {w a b : World} {C : Nat} (h : Bel w a) (hg : a.grownBy b (some C)) (hC : w.heap.size ≤ C) : Bel w b := Below.grown h hg h.out.size (fun k e => by injection e with e; omega)

set_option maxRecDepth 100000 in
set_option maxHeartbeats 4000000 in
theorem drawInBox_any (a : Option Addr) (n c : Nat) (w : World) (hS : Bts w a n) (hn : n ≤ 1048576) :
    Calls Tryd.prog 5 #[.slice a n c] w fun e w' => ∃ (v : Value) (m : Nat) (xs : List Value) (q : BoxD), e = .returned (.tuple #[v, bxv q]) ∧ m ≤ 2001 ∧ w'.ownsRow w.heap.size 26 2 v m xs ∧ (∀ u ∈ xs, ∃ z : Int, u = .int .i64 z) ∧ Bel w w' := by
  obtain ⟨W, HW⟩ : ∃ W, Hid (W = w.alloc (.cells #[.int .i64 0, .int .i64 0, .int .i64 0, .int .i64 0] 28)) := ⟨_, (rfl : w.alloc (.cells #[.int .i64 0, .int .i64 0, .int .i64 0, .int .i64 0] 28) = _)⟩
  have hW : Bel w W := by rw [HW.out]; exact bel_alloc (Bel.refl _) _
  have Z0 : Blk W w.heap.size [.int .i64 0, .int .i64 0, .int .i64 0, .int .i64 0] := by rw [HW.out]; exact Blk.new w [.int .i64 0, .int .i64 0, .int .i64 0, .int .i64 0] _
  have HS := hS.bel hW
  go_enter Tryd.func5, Tryd.ntmps5
  go_wp2_with fail
  rw [← HW.out]
  refine (l1New_any a n c W HS hn).mono ?_
  rintro e w1 ⟨rfl, hb1, k1⟩
  go_wp2_with fail
  refine (drawAny_any _ a n c W w1 hb1 (Nat.le_refl _) k1 HS hn).mono ?_
  rintro e w2 ⟨v, m, xs, rfl, hm, hO, hX, d2⟩
  obtain ⟨va, vc, rfl⟩ := own_form hO
  go_wp2_with fail
  refine (drawBox_any _ a n c W w2 d2.b (Nat.le_refl _) d2.k HS hn).mono ?_
  rintro e w3 ⟨q, rfl, d3⟩
  have hlt : W.heap.size < w1.heap.size := k1.lt
  have HO3 : Hid (w3.ownsRow w1.heap.size 26 2 (.slice va m vc) m xs) := own_drawn hO d3 hlt
  have hBW3 := (d2.then d3).b
  obtain ⟨U, HU⟩ : ∃ U, Hid (U = w3.alloc (.cells #[.int .i64 q.a, .int .i64 q.b, .int .i64 q.c, .int .i64 q.d] 28)) := ⟨_, (rfl : w3.alloc (.cells #[.int .i64 q.a, .int .i64 q.b, .int .i64 q.c, .int .i64 q.d] 28) = _)⟩
  have hbU : Bel w3 U := by rw [HU.out]; exact bel_alloc (Bel.refl _) _
  have XU : Blk U w3.heap.size [.int .i64 q.a, .int .i64 q.b, .int .i64 q.c, .int .i64 q.d] := by rw [HU.out]; exact Blk.new w3 [.int .i64 q.a, .int .i64 q.b, .int .i64 q.c, .int .i64 q.d] _
  have Z3 := Z0.bel (bel_step hBW3 hbU)
  have z0 : U.cell? ⟨w.heap.size, 0, none⟩ = some (.int .i64 0) := Z3.cell 0 (by simp)
  have z1 : U.cell? ⟨w.heap.size, 1, none⟩ = some (.int .i64 0) := Z3.cell 1 (by simp)
  have z2 : U.cell? ⟨w.heap.size, 2, none⟩ = some (.int .i64 0) := Z3.cell 2 (by simp)
  have z3 : U.cell? ⟨w.heap.size, 3, none⟩ = some (.int .i64 0) := Z3.cell 3 (by simp)
  have zf := Z3.free
  have zl := Z3.lt
  have u0 : U.cell? ⟨w3.heap.size, 0, none⟩ = some (.int .i64 q.a) := XU.cell 0 (by simp)
  have u1 : U.cell? ⟨w3.heap.size, 1, none⟩ = some (.int .i64 q.b) := XU.cell 1 (by simp)
  have u2 : U.cell? ⟨w3.heap.size, 2, none⟩ = some (.int .i64 q.c) := XU.cell 2 (by simp)
  have u3 : U.cell? ⟨w3.heap.size, 3, none⟩ = some (.int .i64 q.d) := XU.cell 3 (by simp)
  have ul := XU.lt
  have hne : w.heap.size ≠ w3.heap.size := by have := Z0.lt; have := hBW3.out.size; omega
  have HF : Hid (∀ W', U.grownBy W' (some w.heap.size) → W'.ownsRow w.heap.size 26 2 (.slice va m vc) m xs ∧ (∀ u ∈ xs, ∃ z : Int, u = .int .i64 z) ∧ Bel w W') := fun W' hg =>
    ⟨own_low (own_far (HO3.out.kept ⟨hbU.out.os, hbU.out.tape, hbU.out.output, hbU.out.size, fun k hk _ => hbU.out.block k hk⟩ (Classical.em (_ = none))) hg (by have := Z0.lt; omega)) (by have := hW.out.size; omega), hX, bel_far (bel_step hW (bel_step hBW3 hbU)) hg (Nat.le_refl _)⟩
  clear hO hX d2 d3 k1 hb1 Z0 Z3 XU HO3 hBW3 hbU
  go_upto_region 4 with fail
  rw [← HU.out]
  go_big_region
  go_wp2
  refine bodyPost_ret (v := .tuple #[.slice va m vc, bxv q]) (by simp [results, Tryd.results5, go_sem, z0, z1, z2, z3, bxv]) rfl ?_
  refine ⟨_, m, xs, q, rfl, hm, HF.out _ ?_⟩
  with_reducible repeat (first | exact World.grownBy.refl _ _ | refine World.grownBy.trans ?_ (drewG _ _) | refine World.grownBy.trans ?_ (setG _ _ _ _))

set_option maxRecDepth 100000 in
set_option maxHeartbeats 4000000 in
theorem drawNearest_any (a : Option Addr) (n c : Nat) (w : World) (hS : Bts w a n) (hn : n ≤ 1048576) :
    Calls Tryd.prog 12 #[.slice a n c] w fun e w' => ∃ (v : Value) (m : Nat) (xs : List Value) (px py k : Int), e = .returned (.tuple #[v, pt px py, .int .i64 k]) ∧ m ≤ 2001 ∧ (-1 ≤ k ∧ k ≤ 5) ∧ w'.ownsRow w.heap.size 26 2 v m xs ∧ (∀ u ∈ xs, ∃ z : Int, u = .int .i64 z) ∧ Bel w w' := by
  obtain ⟨W, HW⟩ : ∃ W, Hid (W = w.alloc (.cells #[.int .i64 0, .int .i64 0] 26)) := ⟨_, (rfl : w.alloc (.cells #[.int .i64 0, .int .i64 0] 26) = _)⟩
  have hW : Bel w W := by rw [HW.out]; exact bel_alloc (Bel.refl _) _
  have Z0 : Blk W w.heap.size [.int .i64 0, .int .i64 0] := by rw [HW.out]; exact Blk.new w [.int .i64 0, .int .i64 0] _
  have HS := hS.bel hW
  go_enter Tryd.func12, Tryd.ntmps12
  go_wp2_with fail
  rw [← HW.out]
  refine (l1New_any a n c W HS hn).mono ?_
  rintro e w1 ⟨rfl, hb1, k1⟩
  go_wp2_with fail
  refine (drawAny_any _ a n c W w1 hb1 (Nat.le_refl _) k1 HS hn).mono ?_
  rintro e w2 ⟨v, m, xs, rfl, hm, hO, hX, d2⟩
  obtain ⟨va, vc, rfl⟩ := own_form hO
  go_wp2_with fail
  refine (drawPoint_any _ a n c W w2 d2.b (Nat.le_refl _) d2.k HS hn).mono ?_
  rintro e w3 ⟨px, py, rfl, d3⟩
  have hlt : W.heap.size < w1.heap.size := k1.lt
  have HO3 : Hid (w3.ownsRow w1.heap.size 26 2 (.slice va m vc) m xs) := own_drawn hO d3 hlt
  have D3 := d2.then d3
  obtain ⟨U, HU⟩ : ∃ U, Hid (U = w3.alloc (.cells #[.int .i64 px, .int .i64 py] 26)) := ⟨_, (rfl : w3.alloc (.cells #[.int .i64 px, .int .i64 py] 26) = _)⟩
  have hbU : Bel w3 U := by rw [HU.out]; exact bel_alloc (Bel.refl _) _
  have XU : Blk U w3.heap.size [.int .i64 px, .int .i64 py] := by rw [HU.out]; exact Blk.new w3 [.int .i64 px, .int .i64 py] _
  have DU := D3.bel hbU
  have hPB : w3.heap.size ≠ W.heap.size := by have := D3.k.lt; omega
  have HOU : Hid (U.ownsRow w1.heap.size 26 2 (.slice va m vc) m xs) := HO3.out.kept ⟨hbU.out.os, hbU.out.tape, hbU.out.output, hbU.out.size, fun k hk _ => hbU.out.block k hk⟩ (Classical.em (_ = none))
  have hs3 := D3.o.size
  clear hO d2 d3 k1 hb1 HO3 D3
  go_upto_region 4 with fail
  rw [← HU.out]
  go_wp2_with fail
  refine (below_any _ a n c W U DU.b (Nat.le_refl _) DU.k HS hn 7 (by decide) (by decide)).mono ?_
  rintro e w4 ⟨t, rfl, ⟨t0, t1⟩, d4⟩
  have D4 := DU.then d4
  have Z4 := Z0.bel D4.b
  have X4 := XU.only d4.o hPB
  have HO4 : Hid (w4.ownsRow w1.heap.size 26 2 (.slice va m vc) m xs) := own_drawn HOU.out d4 hlt
  have z0 : w4.cell? ⟨w.heap.size, 0, none⟩ = some (.int .i64 0) := Z4.cell 0 (by simp)
  have z1 : w4.cell? ⟨w.heap.size, 1, none⟩ = some (.int .i64 0) := Z4.cell 1 (by simp)
  have zf := Z4.free
  have zl := Z4.lt
  have u0 : w4.cell? ⟨w3.heap.size, 0, none⟩ = some (.int .i64 px) := X4.cell 0 (by simp)
  have u1 : w4.cell? ⟨w3.heap.size, 1, none⟩ = some (.int .i64 py) := X4.cell 1 (by simp)
  have ul := X4.lt
  have hne : w.heap.size ≠ w3.heap.size := by have := Z0.lt; omega
  have HF : Hid (∀ W', w4.grownBy W' (some w.heap.size) → W'.ownsRow w.heap.size 26 2 (.slice va m vc) m xs ∧ (∀ u ∈ xs, ∃ z : Int, u = .int .i64 z) ∧ Bel w W') := fun W' hg =>
    ⟨own_low (own_far HO4.out hg (by have := Z0.lt; omega)) (by have := hW.out.size; omega), hX, bel_far (bel_step hW D4.b) hg (Nat.le_refl _)⟩
  clear hX Z0 Z4 XU X4 HO4 HOU hbU DU D4 d4
  go_upto_region 5 with fail
  go_big_region
  go_wp2
  refine bodyPost_ret (v := .tuple #[.slice va m vc, pt px py, .int .i64 (t - 1)]) (by simp [results, Tryd.results12, go_sem, z0, z1]) rfl ?_
  refine ⟨_, m, xs, px, py, t - 1, rfl, hm, ⟨by omega, by omega⟩, HF.out _ ?_⟩
  with_reducible repeat (first | exact World.grownBy.refl _ _ | refine World.grownBy.trans ?_ (drewG _ _) | refine World.grownBy.trans ?_ (setG _ _ _ _))
end Go.Proofs.YtkinpfnelmdmlaaDoor
