/-
  Contracts of InBox, in the program and in its model: for every row and every box.
-/
import Derived.Test.YtkinpfnelmdmlaaDoorSrtL
import Derived.Test.YtkinpfnelmdmlaaDoorInbC
namespace Go.Proofs.YtkinpfnelmdmlaaDoor
open Go.RowKit Go.Maps

/-- Of the first k numbers of a row those that lie in the box. -/
def inbF (X Y : Nat → Int) (q : BoxD) (o : Nat → Nat) : Nat → List Int
  | 0 => []
  | k + 1 => inbF X Y q o k ++ (if ptB q (X (o k)) (Y (o k)) = true then [((o k : Nat) : Int)] else [])
theorem inbF_yes {X Y : Nat → Int} {q : BoxD} {o : Nat → Nat} {k : Nat} (h : ptB q (X (o k)) (Y (o k)) = true) : inbF X Y q o (k + 1) = inbF X Y q o k ++ [((o k : Nat) : Int)] := by
  show inbF X Y q o k ++ _ = _
  rw [if_pos h]
theorem inbF_no {X Y : Nat → Int} {q : BoxD} {o : Nat → Nat} {k : Nat} (h : ptB q (X (o k)) (Y (o k)) = false) : inbF X Y q o (k + 1) = inbF X Y q o k := by
  show inbF X Y q o k ++ _ = _
  rw [if_neg (by rw [h]; exact Bool.false_ne_true), List.append_nil]
theorem inbF_len (X Y : Nat → Int) (q : BoxD) (o : Nat → Nat) : ∀ k, (inbF X Y q o k).length ≤ k
  | 0 => Nat.le_refl _
  | k + 1 => by
    have := inbF_len X Y q o k
    show (inbF X Y q o k ++ _).length ≤ _
    rw [List.length_append]
    split <;> simp <;> omega
theorem inbF_same {X Y : Nat → Int} {q : BoxD} {o o' : Nat → Nat} : ∀ k, (∀ x, x < k → o x = o' x) → inbF X Y q o k = inbF X Y q o' k
  | 0, _ => rfl
  | k + 1, h => by
    show inbF X Y q o k ++ _ = inbF X Y q o' k ++ _
    rw [inbF_same k (fun x hx => h x (by omega)), h k (by omega)]
theorem inbF_in64 {X Y : Nat → Int} {q : BoxD} {o : Nat → Nat} {n : Nat} (hn : n ≤ 1048576) : ∀ k, (∀ x, x < k → o x < n) → ∀ y ∈ inbF X Y q o k, In64 y
  | 0, _, y, hy => nomatch hy
  | k + 1, h, y, hy => by
    rcases List.mem_append.1 hy with h1 | h1
    · exact inbF_in64 hn k (fun x hx => h x (by omega)) y h1
    · have hk := h k (by omega)
      split at h1
      · rw [List.mem_singleton.1 h1]; exact ⟨by omega, by omega⟩
      · cases h1
/-- The numbers of a row that lie in a box, in the order of codes; of what is no row nothing. -/
def InbL (n : Nat) (X Y : Nat → Int) (q : BoxD) (l : List Int) : Prop := (rowB n X Y = false ∧ l = []) ∨ (rowB n X Y = true ∧ ∃ o, Bk (fun i => cod (X i) (Y i)) o 0 n ∧ l = inbF X Y q o n)
theorem InbL.one {n : Nat} {X Y : Nat → Int} {q : BoxD} {l l' : List Int} (h : InbL n X Y q l) (g : InbL n X Y q l') : l = l' := by
  rcases h with ⟨h1, rfl⟩ | ⟨h1, o, h2, rfl⟩
  · rcases g with ⟨_, rfl⟩ | ⟨g1, _⟩
    · rfl
    · rw [h1] at g1; cases g1
  · rcases g with ⟨g1, _⟩ | ⟨_, o', g2, rfl⟩
    · rw [h1] at g1; cases g1
    · exact inbF_same n fun x hx => h2.one g2 x hx
theorem InbL.len {n : Nat} {X Y : Nat → Int} {q : BoxD} {l : List Int} (h : InbL n X Y q l) : l.length ≤ n := by
  rcases h with ⟨_, rfl⟩ | ⟨_, o, _, rfl⟩
  · simp
  · exact inbF_len X Y q o n
theorem InbL.in64 {n : Nat} {X Y : Nat → Int} {q : BoxD} {l : List Int} (h : InbL n X Y q l) (hn : n ≤ 1048576) : ∀ y ∈ l, In64 y := by
  rcases h with ⟨_, rfl⟩ | ⟨_, o, h2, rfl⟩
  · intro y hy; cases hy
  · exact inbF_in64 hn n (fun x hx => (h2.2 x (Nat.zero_le _) hx).2)
/-- What SortSpace tells, as the numbers that are gone through. -/
theorem SrtL.go {n : Nat} {X Y : Nat → Int} {l : List Int} (h : SrtL n X Y l) (q : BoxD) : ∃ (d : Nat → Nat) (m : Nat), l = lsO d m ∧ m ≤ n ∧ (∀ i, i < m → d i < n) ∧ InbL n X Y q (inbF X Y q d m) := by
  rcases h with ⟨h1, rfl⟩ | ⟨h1, o, h2, rfl⟩
  · exact ⟨fun i => i, 0, rfl, Nat.zero_le _, fun i hi => absurd hi (Nat.not_lt_zero _), Or.inl ⟨h1, rfl⟩⟩
  · exact ⟨o, n, rfl, Nat.le_refl _, fun i hi => (h2.2 i (Nat.zero_le _) hi).2, Or.inr ⟨h1, o, h2, rfl⟩⟩
theorem ints_grown {w w' : World} {a : Option Addr} {l : List Int} {bs : List Nat} {r : Option Nat} (h : Ints w a l bs) (g : w.grownBy w' r) (hr : ∀ x ∈ bs, r ≠ some x) : Ints w' a l bs :=
  h.alike intE fun b hb => by
    have e := g.block b (h.lt intE b hb) (fun e => hr b hb e.symm)
    exact ⟨Nat.lt_of_lt_of_le (h.lt intE b hb) g.size, fun o => World.cell?_of_block (a := ⟨b, o, none⟩) e, fun o => World.frozen?_of_block (a := ⟨b, o, none⟩) e⟩
/-- What is held while the numbers are gone through. -/
structure InS (W0 : World) (base : Nat) (aA : Option Addr) (L : List Int) (eA : List Nat) (l : List Int) (v : Value) (wr : World) : Prop where
  own : OwnI base wr v l
  far : ∀ x ∈ eA, v.ownBlock ≠ some x
  all : Ints wr aA L eA
  bel : Bel W0 wr
  sz : base ≤ wr.heap.size
theorem lsO_cell {b off : Nat} {d : Nat → Nat} {m : Nat} {eA : List Nat} {wr : World} (h : Ints wr (some ⟨b, off, none⟩) (lsO d m) eA) {k : Nat} (hk : k < m) : b < wr.heap.size ∧ wr.cell? ⟨b, off + k, none⟩ = some (.int .i64 ((d k : Nat) : Int)) := by
  obtain ⟨b', off', f, e, hb, hx⟩ := h.out (k := k) (by rw [lsO_len]; exact hk)
  injection e with e
  injection e with e1 e2
  subst e1; subst e2
  have := (hx k (by rw [lsO_len]; exact hk)).2.2
  rw [lsO_at, Nat.mul_one] at this
  exact ⟨hb, this⟩
theorem ints_some {w : World} {a : Option Addr} {l : List Int} {bs : List Nat} (h : Ints w a l bs) (hl : 0 < l.length) : ∃ b off, a = some ⟨b, off, none⟩ := by
  obtain ⟨b, off, f, e, _⟩ := h.out hl
  exact ⟨b, off, e⟩

set_option maxRecDepth 100000 in
set_option maxHeartbeats 4000000 in
theorem inBox_any (a : Option Addr) (n c : Nat) (X Y : Nat → Int) (q : BoxD) (w : World) (hP : Pts w a n X Y) (hT : SpTab w) (hn : n ≤ 1048576) :
    Calls Tryd.prog 8 #[.slice a n c, .agg #[.int .i64 q.a, .int .i64 q.b, .int .i64 q.c, .int .i64 q.d]] w fun e w' => ∃ v l, e = .returned v ∧ OutI w.heap.size w' v l ∧ InbL n X Y q l ∧ Bel w w' := by
  obtain ⟨i0, hi0, hz0, hz1, hz2⟩ := info_parts infoI
  have HP : Hid (Pts w a n X Y) := hP
  obtain ⟨W0, HW0⟩ : ∃ V : World, Hid (V = w.alloc (.cells #[.int .i64 q.a, .int .i64 q.b, .int .i64 q.c, .int .i64 q.d] 28)) := ⟨_, (rfl : w.alloc (.cells #[.int .i64 q.a, .int .i64 q.b, .int .i64 q.c, .int .i64 q.d] 28) = _)⟩
  have hBW : Bel w W0 := by rw [HW0.out]; exact bel_alloc (Bel.refl _) _
  have XB : Blk W0 w.heap.size [.int .i64 q.a, .int .i64 q.b, .int .i64 q.c, .int .i64 q.d] := by rw [HW0.out]; exact Blk.new w [.int .i64 q.a, .int .i64 q.b, .int .i64 q.c, .int .i64 q.d] _
  have hs0 : W0.heap.size = w.heap.size + 1 := by rw [HW0.out]; simp
  clear hP
  go_enter Tryd.func8, Tryd.ntmps8
  go_wp2_with fail
  rw [← HW0.out]
  refine (sortSpace_any _ _ _ X Y _ (HP.out.bel hBW) (hT.bel hBW) hn).mono ?_
  rintro e w1 ⟨v1, l1, rfl, O1, R1, S1⟩
  obtain ⟨d, m, rfl, hmn, hd, hIB⟩ := R1.go q
  obtain ⟨aA, cA, eA, rfl, I1, F1, _⟩ := O1
  have HIB : Hid (InbL n X Y q (inbF X Y q d m)) := hIB
  have HD : Hid (∀ i, i < m → d i < n) := hd
  have HI0 : Hid (InS W0 w1.heap.size aA (lsO d m) eA (inbF X Y q d 0) (.slice none 0 0) w1) := (⟨World.ownsRow_nil _ _ _ _, (fun x _ e => by cases e), I1, S1, Nat.le_refl _⟩ : InS W0 w1.heap.size aA (lsO d m) eA (inbF X Y q d 0) (.slice none 0 0) w1)
  have HW1 : Hid (w.heap.size ≤ w1.heap.size ∧ W0.heap.size ≤ w1.heap.size) := ⟨(bel_step hBW S1).out.size, S1.out.size⟩
  clear hIB hd R1 I1 F1 hT
  rw [lsO_len]
  go_wp2
  go_loopw [5, 7, 11] (fun u5 u7 u11 wr => ∃ (k : Nat) (v : Value), k ≤ m ∧ u11 = .int .i64 k ∧ u5 = v ∧ InS W0 w1.heap.size aA (lsO d m) eA (inbF X Y q d k) v wr) (fun u5 u7 u11 _ => m - (intOf u11).toNat)
  case atStart => exact ⟨0, _, Nat.zero_le _, rfl, rfl, HI0.out⟩
  case round =>
    clear HI0
    obtain ⟨k, v, hk, rfl, rfl, hS⟩ := hrel
    obtain ⟨va, vc, rfl⟩ := own_shape hS.own
    have HLK : Hid ((inbF X Y q d k).length ≤ k) := inbF_len X Y q d k
    obtain ⟨ln, Hln⟩ : ∃ x, Hid ((inbF X Y q d k).length = x) := ⟨_, (rfl : (inbF X Y q d k).length = _)⟩
    rw [Hln.out] at hS HLK ⊢
    have HS : Hid (InS W0 w1.heap.size aA (lsO d m) eA (inbF X Y q d k) (.slice va ln vc) wr) := hS
    by_cases hlt : k < m
    · have hlt' : (k : Int) < (m : Int) := by omega
      obtain ⟨bA, oA, rfl⟩ := ints_some hS.all (by rw [lsO_len]; omega)
      obtain ⟨lA, rA⟩ := lsO_cell hS.all hlt
      obtain ⟨t, Ht⟩ : ∃ t, Hid (d k = t) := ⟨_, (rfl : d k = _)⟩
      rw [Ht.out] at rA
      have htn : t < n := by rw [← Ht.out]; exact HD.out k hlt
      have htn' : (t : Int) < (n : Int) := by omega
      have hB0 := bel_step hBW hS.bel
      rcases HP.out.bel hB0 with h | ⟨b, off, rfl, h2, h3⟩
      · omega
      obtain ⟨cx, cy⟩ := h3 t htn
      obtain ⟨x, Hx⟩ : ∃ x, Hid (X t = x) := ⟨_, (rfl : X t = _)⟩
      obtain ⟨y, Hy⟩ : ∃ x, Hid (Y t = x) := ⟨_, (rfl : Y t = _)⟩
      rw [Hx.out] at cx
      rw [Hy.out] at cy
      have XBr := XB.bel hS.bel
      have g0 : Bel wr wr := Bel.refl _
      have hR : ∀ w', Bel wr w' → w'.cell? ⟨w.heap.size, 0, none⟩ = some (.int .i64 q.a) ∧ w'.cell? ⟨w.heap.size, 1, none⟩ = some (.int .i64 q.b) ∧ w'.cell? ⟨w.heap.size, 2, none⟩ = some (.int .i64 q.c) ∧ w'.cell? ⟨w.heap.size, 3, none⟩ = some (.int .i64 q.d) ∧ w'.cell? ⟨b, off + t * 2, none⟩ = some (.int .i64 x) ∧ w'.cell? ⟨b, off + t * 2 + 1, none⟩ = some (.int .i64 y) := fun w' h =>
        ⟨(XBr.bel h).cell 0 (by simp), (XBr.bel h).cell 1 (by simp), (XBr.bel h).cell 2 (by simp), (XBr.bel h).cell 3 (by simp), bel_cellM h h2 cx, bel_cellM h h2 cy⟩
      have HPt : Hid (ptB q (X (d k)) (Y (d k)) = ptB q x y) := by show ptB q (X (d k)) (Y (d k)) = ptB q x y; rw [Ht.out, Hx.out, Hy.out]
      obtain ⟨pb, Hpb⟩ : ∃ p, Hid (ptB q x y = p) := ⟨_, (rfl : ptB q x y = _)⟩
      have cH := fun w' => holds_any q x y w'
      rw [Hpb.out] at cH
      clear hS h3 XBr hB0
      cases pb
      · have HF : Hid (inbF X Y q d (k + 1) = inbF X Y q d k) := inbF_no (HPt.out.trans Hpb.out)
        go_wp2
        go_region_held3 (fun w' => Bel wr w') (with_reducible (repeat (first | exact g0 | refine Bel.drew ?_ | assumption)))
          (first
            | (go_at_call 22; refine (cH _).mono ?_; rintro e w4 ⟨rfl, hb4⟩; refine (fun hq : Bel wr w4 => ?_) (bel_step (by assumption) hb4)))
        have HN : Hid (InS W0 w1.heap.size (some ⟨bA, oA, none⟩) (lsO d m) eA (inbF X Y q d (k + 1)) (.slice va ln vc) w4) := by
          rw [HF.out]
          exact ⟨own_bel HS.out.own hq, HS.out.far, HS.out.all.bel intE hq, bel_step HS.out.bel hq, Nat.le_trans HS.out.sz hq.out.size⟩
        clear hR hb4 hq cx cy rA
        go_wp2
        go_roundw
        case rel => exact ⟨k + 1, _, by omega, by go_num, rfl, HN.out⟩
        case measure => simp [intOf]; omega
      · have HF : Hid (inbF X Y q d (k + 1) = inbF X Y q d k ++ [(t : Int)]) := by show _ = _; rw [inbF_yes (HPt.out.trans Hpb.out), Ht.out]
        go_wp2
        go_region_held3 (fun w' => Bel wr w') (with_reducible (repeat (first | exact g0 | refine Bel.drew ?_ | assumption)))
          (first
            | (go_at_call 22; refine (cH _).mono ?_; rintro e w4 ⟨rfl, hb4⟩; refine (fun hq : Bel wr w4 => ?_) (bel_step (by assumption) hb4)))
        have r4 : w4.cell? ⟨bA, oA + k, none⟩ = some (.int .i64 (t : Int)) := bel_cellM hq lA rA
        have hown2 : (w4.alloc (.cells #[.int .i64 (t : Int)] 2)).ownsRow w1.heap.size 2 1 (.slice va ln vc) ln (intsV (inbF X Y q d k)) := by
          have := own_bel HS.out.own (bel_step hq (bel_alloc (Bel.refl _) (.cells #[.int .i64 (t : Int)] 2)))
          rw [Hln.out] at this
          exact this
        have hBq : Bel W0 w4 := bel_step HS.out.bel hq
        have HA4 : Hid (Ints w4 (some ⟨bA, oA, none⟩) (lsO d m) eA) := HS.out.all.bel intE hq
        have HEl : Hid (∀ x ∈ eA, x < w4.heap.size) := HA4.out.lt intE
        have hbs : w1.heap.size ≤ w4.heap.size := by have := HS.out.sz; have := hq.out.size; omega
        clear hR hb4 hq cx cy rA lA g0
        go_wp2_with (first
          | (at_builtin; refine wpList_append_lies _ rfl _ _ 31 rfl w1.heap.size 2 i0 (.int .i64 0) 1 8 Tryd.underlying31 hi0 hz0 hz1 hz2 rfl (by decide) _ _ _ rfl hown2 ⟨w4.heap.size, 0, none⟩ 1 1 [.int .i64 (t : Int)] rfl rfl ?c1 ?c2 (by decide) ?c3 ?c4 ?c5 (w4.heap.size + 1) ?c6 ?_)
          | go_in)
        case c1 =>
          intro j u hj
          match j, hj with
          | 0, hj => simp at hj; subst hj; simp [Addr.add]
        case c2 =>
          intro u hu
          simp at hu
          rcases hu with rfl
          rfl
        case c3 => have := HLK.out; unfold maxLen; omega
        case c4 => have := HLK.out; omega
        case c5 => simp; omega
        case c6 => simp
        intro g cap w5 hown5 hgrow hat hgl
        have HN : Hid (InS W0 w1.heap.size (some ⟨bA, oA, none⟩) (lsO d m) eA (inbF X Y q d (k + 1)) (.slice (some ⟨g, 0, none⟩) (ln + 1) cap) w5) := by
          refine ⟨?_, ?_, ?_, ?_, ?_⟩
          · rw [HF.out]
            have : w5.ownsRow w1.heap.size 2 1 (.slice (some ⟨g, 0, none⟩) (ln + 1) cap) ((inbF X Y q d k).length + 1) (intsV (inbF X Y q d k) ++ [.int .i64 (t : Int)]) := by rw [Hln.out]; exact hown5
            exact own_add this
          · intro x hx e
            have e : some g = some x := e
            injection e with e
            subst e
            rcases hat with h | h
            · exact HS.out.far g hx h
            · have := HEl.out g hx; omega
          · exact ints_grown (HA4.out.bel intE (bel_alloc (Bel.refl _) _)) hgrow HS.out.far
          · exact bel_grow (bel_alloc hBq _) hgrow (fun j e => Nat.le_trans HW1.out.2 (hown2.lt j e).1)
          · have := hgrow.size; simp at this; omega
        clear hown5 hgrow hat hown2 hBq r4
        go_wp2
        go_roundw
        case rel => exact ⟨k + 1, _, by omega, by go_num, rfl, HN.out⟩
        case measure => simp [intOf]; omega
    · obtain rfl : k = m := by omega
      have hlt' : ¬ (k : Int) < (k : Int) := by omega
      clear hS
      go_wp2
      go_ret
      exact ⟨_, rfl, _, own_ints (own_base HS.out.own HW1.out.1) (HIB.out.in64 hn), HIB.out, bel_step hBW HS.out.bel⟩

end Go.Proofs.YtkinpfnelmdmlaaDoor
