/-
  What is drawn of a tile: held against another, marked, the marks held: contracts.
  What the law on TileOf wants besides: how long a tile's lists are; an answer that is kept in a variable of the law's own; a block beside what changes.
-/
import Derived.Test.YtldfcnlhjjiihaaGreatKN
import Derived.Test.YtldfcnlhjjiihaaGreatDTile
import Derived.Test.YtldfcnlhjjiihaaGreatKH
import Derived.Test.YtldfcnlhjjiihaaGreatKI
import Derived.Test.YtldfcnlhjjiihaaGreatKM
namespace Go.Proofs.YtldfcnlhjjiihaaGreat
open Go.RowKit Go.Maps

def mkTdt (k : Nat) (g : TdtD) : TdtD := ⟨g.tile, mkLnes k g.lines⟩
def mkTdtE (k : Nat) (g : TdtD) : Nat := stLne k g.lines g.lines.length

set_option maxHeartbeats 1000000 in
theorem eqTileData_v (v v' : Value) (g : TdtD) (bs bs' : List Nat) (w : World) (hV : TdtV w v g bs) (hV' : TdtV w v' g bs') (hQ : TdtQ g) :
  Calls Tryz.prog 9 #[v, v'] w fun e w' => e = .returned (.bool true) ∧ Bel w w' := by
 obtain ⟨a, c, rfl, t1⟩ := hV
 obtain ⟨a', c', rfl, t2⟩ := hV'
 obtain ⟨q0, q1⟩ := hQ
 obtain ⟨n, Hn⟩ : ∃ n, Hid (g.lines.length = n) := ⟨_, (rfl : g.lines.length = _)⟩
 rw [Hn.out] at q0 ⊢
 have S0 : Bel w ((w.alloc (.cells #[.int .i64 g.tile.z, .int .i64 g.tile.x, .int .i64 g.tile.y, .slice a n c] 33)).alloc (.cells #[.int .i64 g.tile.z, .int .i64 g.tile.x, .int .i64 g.tile.y, .slice a' n c'] 33)) := bel_alloc (bel_alloc (Bel.refl _) _) _
 have X0 : Blk ((w.alloc (.cells #[.int .i64 g.tile.z, .int .i64 g.tile.x, .int .i64 g.tile.y, .slice a n c] 33)).alloc (.cells #[.int .i64 g.tile.z, .int .i64 g.tile.x, .int .i64 g.tile.y, .slice a' n c'] 33)) w.heap.size [.int .i64 g.tile.z, .int .i64 g.tile.x, .int .i64 g.tile.y, .slice a n c] := (Blk.new w [.int .i64 g.tile.z, .int .i64 g.tile.x, .int .i64 g.tile.y, .slice a n c] _).bel (bel_alloc (Bel.refl _) _)
 have Y0 : Blk ((w.alloc (.cells #[.int .i64 g.tile.z, .int .i64 g.tile.x, .int .i64 g.tile.y, .slice a n c] 33)).alloc (.cells #[.int .i64 g.tile.z, .int .i64 g.tile.x, .int .i64 g.tile.y, .slice a' n c'] 33)) (w.heap.size + 1) [.int .i64 g.tile.z, .int .i64 g.tile.x, .int .i64 g.tile.y, .slice a' n c'] := Blk.new1 w _ [.int .i64 g.tile.z, .int .i64 g.tile.x, .int .i64 g.tile.y, .slice a' n c'] _
 go_enter Tryz.func9, Tryz.ntmps9
 go_wp2_with fail
 refine (eqTile_same g.tile.z g.tile.x g.tile.y _).mono ?_
 rintro e w1 ⟨rfl, hb1⟩
 have S1 := bel_step S0 hb1
 have X1 := X0.bel hb1
 have Y1 := Y0.bel hb1
 have x3 : w1.cell? ⟨w.heap.size, 3, none⟩ = some (.slice a n c) := X1.cell 3 (by simp)
 have y3 : w1.cell? ⟨w.heap.size + 1, 3, none⟩ = some (.slice a' n c') := Y1.cell 3 (by simp)
 clear X0 Y0 X1 Y1
 go_wp2_with fail
 refine (eqLineS_same _ _ _ _ _ g.lines bs bs' _ (t1.bel lneE S1) (t2.bel lneE S1) Hn.out q0 q1).mono ?_
 rintro e w2 ⟨rfl, hb2⟩
 have S2 := bel_step S1 hb2
 go_wp2
 go_ret
 exact ⟨rfl, S2⟩

set_option maxHeartbeats 1000000 in
theorem markTileData_v (v : Value) (g : TdtD) (bs : List Nat) (k : Nat) (w : World) (hV : TdtV w v g bs) (hQ : TdtQ g) (hf : ∀ x ∈ bs, ∀ j, w.frozen? ⟨x, j, none⟩ = false) (hd : bs.Nodup) (h0k : 0 < k) (hk : k ≤ 70368744177664) :
  Calls Tryz.prog 12 #[v, .int .i64 k] w fun e w' => e = .returned (.int .i64 (mkTdtE k g : Nat)) ∧ TdtV w' v (mkTdt k g) bs ∧ (∀ x ∈ bs, ∀ j, w'.frozen? ⟨x, j, none⟩ = false) ∧ Onl bs w w' := by
 obtain ⟨a, c, rfl, t1⟩ := hV
 obtain ⟨q0, q1⟩ := hQ
 obtain ⟨n, Hn⟩ : ∃ n, Hid (g.lines.length = n) := ⟨_, (rfl : g.lines.length = _)⟩
 have HR : Hid (mkTdtE k g = stLne k g.lines n) := (by unfold mkTdtE; rw [Hn.out] : mkTdtE k g = stLne k g.lines n)
 rw [HR.out]
 rw [Hn.out] at q0 ⊢
 have S0 : Bel w (w.alloc (.cells #[.int .i64 g.tile.z, .int .i64 g.tile.x, .int .i64 g.tile.y, .slice a n c] 33)) := bel_alloc (Bel.refl _) _
 have hl := t1.lt lneE
 have hf2 : ∀ x ∈ bs, ∀ j, (w.alloc (.cells #[.int .i64 g.tile.z, .int .i64 g.tile.x, .int .i64 g.tile.y, .slice a n c] 33)).frozen? ⟨x, j, none⟩ = false := fun x hx j => by rw [S0.out.frozen (p := ⟨x, j, none⟩) (hl x hx)]; exact hf x hx j
 go_enter Tryz.func12, Tryz.ntmps12
 go_wp2_with fail
 refine (markLineS_any a n c g.lines bs k _ (t1.bel lneE S0) hf2 hd Hn.out q0 q1 h0k hk).mono ?_
 rintro e w2 ⟨rfl, T2, F2, O2⟩
 have HO : Onl bs w w2 := ((Onl.refl bs w).bel S0).trans O2
 have HT : TdtV w2 (.agg #[.int .i64 g.tile.z, .int .i64 g.tile.x, .int .i64 g.tile.y, .slice a n c]) (mkTdt k g) bs := ⟨a, c, by show _ = Value.agg #[.int .i64 g.tile.z, .int .i64 g.tile.x, .int .i64 g.tile.y, .slice a (mkLnes k g.lines).length c]; rw [mkLnes_len, Hn.out], T2⟩
 clear T2 O2
 go_wp2
 go_ret
 exact ⟨rfl, HT, F2, HO⟩

set_option maxHeartbeats 1000000 in
theorem heldTileData_v (v : Value) (g : TdtD) (bs : List Nat) (k : Nat) (w : World) (hV : TdtV w v (mkTdt k g) bs) (hQ : TdtQ g) (h0k : 0 < k) (hk : k ≤ 70368744177664) :
  Calls Tryz.prog 13 #[v, .int .i64 k] w fun e w' => e = .returned (.int .i64 (mkTdtE k g : Nat)) ∧ Bel w w' := by
 obtain ⟨a, c, rfl, t1⟩ := hV
 obtain ⟨q0, q1⟩ := hQ
 obtain ⟨n, Hn⟩ : ∃ n, Hid (g.lines.length = n) := ⟨_, (rfl : g.lines.length = _)⟩
 have HR : Hid (mkTdtE k g = stLne k g.lines n) := (by unfold mkTdtE; rw [Hn.out] : mkTdtE k g = stLne k g.lines n)
 rw [HR.out]
 have hlen : (mkTdt k g).lines.length = n := by show (mkLnes k g.lines).length = n; rw [mkLnes_len, Hn.out]
 rw [hlen]
 rw [Hn.out] at q0
 obtain ⟨T, HT⟩ : ∃ T, Hid (g.tile = T) := ⟨_, (rfl : g.tile = _)⟩
 rw [show (mkTdt k g).tile = T from HT.out]
 have S0 : Bel w (w.alloc (.cells #[.int .i64 T.z, .int .i64 T.x, .int .i64 T.y, .slice a n c] 33)) := bel_alloc (Bel.refl _) _
 have t2 : LneL w a (mkLnes k g.lines) bs := t1
 clear t1 hlen
 go_enter Tryz.func13, Tryz.ntmps13
 go_wp2_with fail
 refine (heldLineS_any a n c g.lines bs k _ (t2.bel lneE S0) Hn.out q0 q1 h0k hk).mono ?_
 rintro e w2 ⟨rfl, hb2⟩
 have S2 := bel_step S0 hb2
 have hn : ¬ ((stLne k g.lines n : Nat) : Int) < 0 := by omega
 obtain ⟨K, HK⟩ : ∃ K, Hid (stLne k g.lines n = K) := ⟨_, (rfl : stLne k g.lines n = _)⟩
 rw [HK.out] at hn ⊢
 go_wp2
 go_ret
 rw [HK.out]
 exact ⟨rfl, S2⟩
end Go.Proofs.YtldfcnlhjjiihaaGreat

namespace Go.Proofs.YtldfcnlhjjiihaaGreat
open Go.ChangeShapes Go.WideShapes Go.ChangeAt Go.RowKit Go.Deep Go.Joins

theorem Blk.onl {w w' : World} {B : Nat} {vs : List Value} {bs : List Nat} (h : Blk w B vs) (O : Onl bs w w') (hn : B ∉ bs) : Blk w' B vs :=
 ⟨Nat.lt_of_lt_of_le h.lt O.size, fun j hj => by rw [O.cell h.lt hn]; exact h.cell j hj, fun j => by rw [O.frozen h.lt hn]; exact h.free j⟩
theorem bel_size {a b : World} (h : Bel a b) : a.heap.size ≤ b.heap.size := h.out.size

abbrev nilT : List Value := [.int .i64 0, .int .i64 0, .int .i64 0, .slice none 0 0]
/-- A variable of the law's own, made in b's world or behind it. -/
structure VrT (b : World) (w : World) (B : Nat) : Prop where
 x : Blk w B nilT
 lo : b.heap.size ≤ B
theorem VrT.new {b W w : World} {t : TypeId} (hl : b.heap.size ≤ W.heap.size) (h : Bel (W.alloc (.cells #[.int .i64 0, .int .i64 0, .int .i64 0, .slice none 0 0] t)) w) : VrT b w W.heap.size := ⟨(Blk.new W nilT t).bel h, hl⟩
theorem VrT.bel {b w w' : World} {B : Nat} (h : VrT b w B) (hb : Bel w w') : VrT b w' B := ⟨h.x.bel hb, h.lo⟩
theorem VrT.cs {b w : World} {B : Nat} (h : VrT b w B) : w.cell? ⟨B, 0, none⟩ = some (.int .i64 0) ∧ w.cell? ⟨B, 1, none⟩ = some (.int .i64 0) ∧ w.cell? ⟨B, 2, none⟩ = some (.int .i64 0) ∧ w.cell? ⟨B, 3, none⟩ = some (.slice none 0 0) ∧ w.frozen? ⟨B, 0, none⟩ = false ∧ w.frozen? ⟨B, 1, none⟩ = false ∧ w.frozen? ⟨B, 2, none⟩ = false ∧ w.frozen? ⟨B, 3, none⟩ = false :=
 ⟨h.x.cell 0 (by simp), h.x.cell 1 (by simp), h.x.cell 2 (by simp), h.x.cell 3 (by simp), h.x.free 0, h.x.free 1, h.x.free 2, h.x.free 3⟩
theorem VrT.no {b w W w' : World} {B : Nat} {e : List Nat} (h : VrT b w B) (hb : Bel w W) (F : Fresh W w' e) : B ∉ e := fun hx => by
 have := (F.new B hx).1
 have := h.x.lt
 have := hb.out.size
 omega
theorem VrT.no_new {W w' : World} {t : TypeId} {e : List Nat} (F : Fresh (W.alloc (.cells #[.int .i64 0, .int .i64 0, .int .i64 0, .slice none 0 0] t)) w' e) : W.heap.size ∉ e := fun hx => by
 have := (F.new _ hx).1
 simp at this
 omega
/-- What a region leaves that puts an answer into such a variable. -/
structure CutT (b : World) (M : TdtD) (t : Value) (w : World) : Prop where
 out : ∃ B s0 s1 s2 s3 e, t = .pointer (some ⟨B, 0, none⟩) ∧ b.heap.size ≤ B ∧ B ∉ e ∧ Blk w B [s0, s1, s2, s3] ∧ TdtV w (.agg #[s0, s1, s2, s3]) M e ∧ Fresh b w e ∧ Bel b w
theorem CutT.put {b w : World} {M : TdtD} {B : Nat} {s0 s1 s2 s3 : Value} {e : List Nat} (h : VrT b w B) (hn : B ∉ e) (V : TdtV w (.agg #[s0, s1, s2, s3]) M e) (F : Fresh b w e) (hb : Bel b w) :
  CutT b M (.pointer (some ⟨B, 0, none⟩)) ((((w.setCell ⟨B, 0, none⟩ s0).setCell ⟨B, 1, none⟩ s1).setCell ⟨B, 2, none⟩ s2).setCell ⟨B, 3, none⟩ s3) := by
 have hA : Alike w (setRow w B 0 [s0, s1, s2, s3]) e := setRow_far _ (fun x hx => (F.new x hx).2) hn
 exact ⟨B, s0, s1, s2, s3, e, rfl, h.lo, hn, (((h.x.set 0 s0 (by simp)).set 1 s1 (by simp)).set 2 s2 (by simp)).set 3 s3 (by simp), V.alike hA, F.alike hA, setRow_bel hb h.lo [s0, s1, s2, s3] 0⟩
theorem CutT.fresh {b w : World} {M : TdtD} {s0 s1 s2 s3 : Value} {e : List Nat} {t : TypeId} (V : TdtV w (.agg #[s0, s1, s2, s3]) M e) (F : Fresh b w e) (hb : Bel b w) :
  CutT b M (.pointer (some ⟨w.heap.size, 0, none⟩)) (w.alloc (.cells #[s0, s1, s2, s3] t)) := by
 have hA := bel_alloc (Bel.refl w) (.cells #[s0, s1, s2, s3] t)
 exact ⟨w.heap.size, s0, s1, s2, s3, e, rfl, hb.out.size, fun hx => absurd (F.new _ hx).2 (Nat.lt_irrefl _), Blk.new w [s0, s1, s2, s3] t, V.bel hA, F.bel hA, bel_step hb hA⟩
end Go.Proofs.YtldfcnlhjjiihaaGreat
