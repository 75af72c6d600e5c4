/-
  What the model draws for Cross: any four points.
-/
import Derived.Test.YtkncogipffofeaaDrawT
import Derived.Laws.OwnMore
import Derived.Deep.AppendLies
namespace Go.Proofs.Ytkncogipffofeaa
open Go.RowKit

theorem infoX : (Try.prog.info? 25).map (fun i => (i.zero, i.size, i.bytes)) = some (some (.agg #[.int .i64 0, .int .i64 0]), 2, 16) := by kernel_rfl
theorem infoX_parts : ∃ i : TypeInfo, Try.prog.info? 25 = some i ∧ i.zero = some (.agg #[.int .i64 0, .int .i64 0]) ∧ i.size = 2 ∧ i.bytes = 16 := by
  have h := infoX
  cases e : Try.prog.info? 25 with
  | none => rw [e] at h; simp at h
  | some i => rw [e] at h; simp at h; exact ⟨i, rfl, h.1, h.2.1, h.2.2⟩
theorem own_drawn {w w' w0 : World} {B base e sz : Nat} {v : Value} {k : Nat} {xs : List Value} {a : Option Addr} {n c : Nat} (h : w.ownsRow base e sz v k xs) (d : Drawn w0 w B a n c w') (hB : B < base) : w'.ownsRow base e sz v k xs := by
  refine ⟨h.1, h.2.imp id ?_⟩
  rintro ⟨g, cap, cur, hv, hb, hg, r⟩
  refine ⟨g, cap, cur, hv, hb, (d.o.obj g ?_ (by omega)).trans hg, r⟩
  exact (Array.getElem?_eq_some_iff.1 hg).1
theorem Drawn.grown {w0 w v u : World} {B : Nat} {a : Option Addr} {n c : Nat} {row : Option Nat} (h : Drawn w0 w B a n c v) (g : v.grownBy u row) (h0 : w0.heap.size ≤ w.heap.size) (hB : B < w.heap.size) (hr : ∀ k, row = some k → w.heap.size ≤ k) : Drawn w0 w B a n c u := by
  have ne : ∀ d, d < w.heap.size → some d ≠ row := fun d hd e => by have := hr d e.symm; omega
  have eb : ∀ d, d < w.heap.size → u.heap[d]? = v.heap[d]? := fun d hd => g.block d (Nat.lt_of_lt_of_le hd h.o.size) (ne d hd)
  have ec : ∀ d i, d < w.heap.size → u.cell? ⟨d, i, none⟩ = v.cell? ⟨d, i, none⟩ := fun d i hd => World.cell?_of_block (a := ⟨d, i, none⟩) (eb d hd)
  have ef : ∀ d i, d < w.heap.size → u.frozen? ⟨d, i, none⟩ = v.frozen? ⟨d, i, none⟩ := fun d i hd => World.frozen?_of_block (a := ⟨d, i, none⟩) (eb d hd)
  exact ⟨Below.grown h.b g h.b.out.size (fun k e => Nat.le_trans h0 (hr k e)), ⟨Nat.le_trans h.o.size g.size, fun d i hd hn => (ec d i hd).trans (h.o.cell d i hd hn), fun d i hd hn => (ef d i hd).trans (h.o.froz d i hd hn), fun d hd hn => (eb d hd).trans (h.o.obj d hd hn)⟩,
    ⟨Nat.lt_of_lt_of_le h.k.lt g.size, (ec B 0 hB).trans h.k.c0, h.k.c1.elim fun i k => ⟨i, k.1, (ec B 1 hB).trans k.2⟩, h.k.c2.elim fun i k => ⟨i, (ec B 2 hB).trans k⟩, fun j => (ef B j hB).trans (h.k.fr j)⟩⟩
/-- A row of four points that may be written. -/
structure Rw (w : World) (g : Nat) : Prop where
  c : ∀ j, j < 8 → ∃ z : Int, w.cell? ⟨g, j, none⟩ = some (.int .i64 z)
  fr : ∀ j, w.frozen? ⟨g, j, none⟩ = false
  lt : g < w.heap.size
theorem Rw.of {w : World} {base t g cap : Nat} {xs : List Value} (h : w.ownsRow base t 2 (.slice (some ⟨g, 0, none⟩) 4 cap) 4 xs) (hx : ∀ u ∈ xs, ∃ z : Int, u = .int .i64 z) : Rw w g := by
  refine ⟨fun j hj => ?_, h.frozenAt, (h.lt g rfl).2⟩
  have hl : j < xs.length := by rw [h.1]; omega
  obtain ⟨z, e⟩ := hx xs[j] (List.getElem_mem hl)
  exact ⟨z, by rw [h.cellAt j (by omega), List.getElem?_eq_getElem hl, e]⟩
theorem Rw.drawn {w w' w0 : World} {g B : Nat} {a : Option Addr} {n c : Nat} (h : Rw w g) (d : Drawn w0 w B a n c w') (hn : g ≠ B) : Rw w' g :=
  ⟨fun j hj => (h.c j hj).elim fun z e => ⟨z, (d.o.cell g j h.lt hn).trans e⟩, fun j => (d.o.froz g j h.lt hn).trans (h.fr j), Nat.lt_of_lt_of_le h.lt d.o.size⟩
theorem Rw.set {w : World} {g : Nat} (h : Rw w g) (o : Nat) (z : Int) : Rw (w.setCell ⟨g, o, none⟩ (.int .i64 z)) g := by
  refine ⟨fun j hj => ?_, fun j => by rw [World.frozen?_setCell]; exact h.fr j, by simpa [World.setCell] using h.lt⟩
  obtain ⟨y, e⟩ := h.c j hj
  by_cases k : j = o
  · subst k; exact ⟨z, World.cell?_setCell_same _ _ _ e⟩
  · exact ⟨y, by rw [World.cell?_setCell_other _ _ _ _ (fun e => k (congrArg Addr.off e).symm)]; exact e⟩
theorem own_form {w : World} {base t k : Nat} {v : Value} {xs : List Value} (h : w.ownsRow base t 2 v k xs) : ∃ va vc, v = .slice va k vc := by
  rcases h.2 with ⟨rfl, rfl⟩ | ⟨g, cap, _, rfl, _⟩
  · exact ⟨_, _, rfl⟩
  · exact ⟨_, _, rfl⟩
theorem own_form4 {w : World} {base t : Nat} {v : Value} {xs : List Value} (h : w.ownsRow base t 2 v 4 xs) : ∃ g cap, v = .slice (some ⟨g, 0, none⟩) 4 cap ∧ base ≤ g := by
  rcases h.2 with ⟨_, h⟩ | ⟨g, cap, _, rfl, hb, _⟩
  · cases h
  · exact ⟨_, _, rfl, hb⟩

set_option maxRecDepth 100000 in
set_option maxHeartbeats 4000000 in
theorem drawCross_any (a : Option Addr) (n c : Nat) (w : World) (hS : Bts w a n) (hn : n ≤ 1048576) :
    Calls Try.prog 8 #[.slice a n c] w fun e w' => ∃ x0 y0 x1 y1 x2 y2 x3 y3 : Int, e = .returned (.tuple #[pt x0 y0, pt x1 y1, pt x2 y2, pt x3 y3]) ∧ Bel w w' := by
  obtain ⟨W, HW⟩ : ∃ W, Hid (W = ((((w.alloc (.cells #[.int .i64 0, .int .i64 0] 25)).alloc (.cells #[.int .i64 0, .int .i64 0] 25)).alloc (.cells #[.int .i64 0, .int .i64 0] 25)).alloc (.cells #[.int .i64 0, .int .i64 0] 25))) := ⟨_, (rfl : ((((w.alloc (.cells #[.int .i64 0, .int .i64 0] 25)).alloc (.cells #[.int .i64 0, .int .i64 0] 25)).alloc (.cells #[.int .i64 0, .int .i64 0] 25)).alloc (.cells #[.int .i64 0, .int .i64 0] 25)) = _)⟩
  have hW : Bel w W := by rw [HW.out]; exact bel_alloc (bel_alloc (bel_alloc (bel_alloc (Bel.refl _) _) _) _) _
  have hWs : W.heap.size = w.heap.size + 1 + 1 + 1 + 1 := by rw [HW.out]; simp
  have Z0 : Pa W (w.heap.size) 0 0 := by
    rw [HW.out]
    have := (Pa.new w 0 0 25).bel (bel_alloc (bel_alloc (bel_alloc (Bel.refl _) (.cells #[.int .i64 0, .int .i64 0] 25)) (.cells #[.int .i64 0, .int .i64 0] 25)) (.cells #[.int .i64 0, .int .i64 0] 25))
    simpa using this
  have Z1 : Pa W (w.heap.size + 1) 0 0 := by
    rw [HW.out]
    have := (Pa.new (w.alloc (.cells #[.int .i64 0, .int .i64 0] 25)) 0 0 25).bel (bel_alloc (bel_alloc (Bel.refl _) (.cells #[.int .i64 0, .int .i64 0] 25)) (.cells #[.int .i64 0, .int .i64 0] 25))
    simpa using this
  have Z2 : Pa W (w.heap.size + 1 + 1) 0 0 := by
    rw [HW.out]
    have := (Pa.new ((w.alloc (.cells #[.int .i64 0, .int .i64 0] 25)).alloc (.cells #[.int .i64 0, .int .i64 0] 25)) 0 0 25).bel (bel_alloc (Bel.refl _) (.cells #[.int .i64 0, .int .i64 0] 25))
    simpa using this
  have Z3 : Pa W (w.heap.size + 1 + 1 + 1) 0 0 := by
    rw [HW.out]
    have := (Pa.new (((w.alloc (.cells #[.int .i64 0, .int .i64 0] 25)).alloc (.cells #[.int .i64 0, .int .i64 0] 25)).alloc (.cells #[.int .i64 0, .int .i64 0] 25)) 0 0 25).bel (Bel.refl _)
    simpa using this
  have HS := hS.bel hW
  obtain ⟨i0, hi, hz0, hz1, hz2⟩ := infoX_parts
  go_enter Try.func8, Try.ntmps8
  go_wp2_with fail
  rw [← HW.out]
  refine (l1New_any a n c W HS hn).mono ?_
  rintro e w1 ⟨rfl, hb1, k1⟩
  rw [hWs] at k1
  rw [hWs]
  have hB1 : w.heap.size + 1 + 1 + 1 + 1 < w1.heap.size := k1.lt
  have hBl : W.heap.size ≤ w1.heap.size := hb1.out.size
  have D1 : Drawn W w1 (w.heap.size + 1 + 1 + 1 + 1) a n c (w1.alloc (.cells #[] 25)) := Drawn.bel ⟨hb1, OnlyB.refl _ _, k1⟩ (bel_alloc (Bel.refl _) _)
  have O1 : (w1.alloc (.cells #[] 25)).ownsRow w1.heap.size 25 2 (.slice (some ⟨w1.heap.size, 0, none⟩) 0 0) 0 [] := World.ownsRow_lit w1 #[] 0 (Nat.le_refl _) (Nat.zero_le _) rfl
  have HWs : Hid (W.heap.size = w.heap.size + 1 + 1 + 1 + 1) := hWs
  clear HW hWs hb1 k1
  go_wp2
  go_loopw [7, 8] (fun r i wr => ∃ (k : Nat) (xs : List Value), k ≤ 4 ∧ i = .int .i64 k ∧ wr.ownsRow w1.heap.size 25 2 r k xs ∧ (∀ u ∈ xs, ∃ z : Int, u = .int .i64 z) ∧ Drawn W w1 (w.heap.size + 1 + 1 + 1 + 1) a n c wr) (fun _ i _ => 4 - (intOf i).toNat)
  case atStart => exact ⟨0, [], by omega, rfl, O1, (fun u hu => by cases hu), D1⟩
  case round =>
    obtain ⟨k, xs, hk, rfl, hO, hX, hD⟩ := hrel
    clear D1 O1
    by_cases hlt : k < 4
    · obtain ⟨va, vc, rfl⟩ := own_form hO
      have hlt' : (k : Int) < 4 := by omega
      go_wp2_with fail
      refine (below_any _ a n c W wr hD.b (Nat.le_of_eq HWs.out) hD.k HS hn 5 (by decide) (by decide)).mono ?_
      rintro e w2 ⟨x, rfl, _, d2⟩
      have hO := own_drawn hO d2 hB1
      have hD := hD.then d2
      clear d2
      go_wp2_with fail
      refine (below_any _ a n c W w2 hD.b (Nat.le_of_eq HWs.out) hD.k HS hn 5 (by decide) (by decide)).mono ?_
      rintro e w3 ⟨y, rfl, _, d3⟩
      have hO := (own_drawn hO d3 hB1).alloc (.cells #[.int .i64 x, .int .i64 y] 25)
      have hD := (hD.then d3).bel (bel_alloc (Bel.refl w3) (.cells #[.int .i64 x, .int .i64 y] 25))
      have hs3 : w1.heap.size ≤ w3.heap.size := ((‹Drawn W w1 _ a n c w2›).then d3).o.size
      have HN : Hid (∀ (j : Nat) (u : Value), [Value.int .i64 x, .int .i64 y][j]? = some u → (w3.alloc (.cells #[.int .i64 x, .int .i64 y] 25)).cell? ((⟨w3.heap.size, 0, none⟩ : Addr).add j) = some u) := World.news_of_block (cs := #[.int .i64 x, .int .i64 y]) (t := 25) (fr := (0, 0)) (heap_alloc_new w3 _)
      have HO : Hid ((w3.alloc (.cells #[.int .i64 x, .int .i64 y] 25)).ownsRow w1.heap.size 25 2 (.slice va k vc) k xs) := hO
      have HD : Hid (Drawn W w1 (w.heap.size + 1 + 1 + 1 + 1) a n c (w3.alloc (.cells #[.int .i64 x, .int .i64 y] 25))) := hD
      clear d3 hO hD
      go_wp2_with (first
        | (at_builtin; refine wpList_append_own _ rfl _ _ 40 rfl w1.heap.size 25 i0 (.agg #[.int .i64 0, .int .i64 0]) 2 16 Try.underlying40 hi hz0 hz1 hz2 rfl (by decide) _ _ _ rfl HO.out ⟨w3.heap.size, 0, none⟩ 1 1 [.int .i64 x, .int .i64 y] rfl rfl HN.out (by simp [Value.oneCell']) (by unfold maxLen; omega) (by omega) (by simp; omega) ?_)
        | go_in)
      intro v' w4 hown hgrow _
      have HD4 : Hid (Drawn W w1 (w.heap.size + 1 + 1 + 1 + 1) a n c w4) := HD.out.grown hgrow hBl hB1 (fun q e => (HO.out.lt q e).1)
      have HO4 : Hid (w4.ownsRow w1.heap.size 25 2 v' (k + 1) (xs ++ [.int .i64 x, .int .i64 y])) := hown
      obtain ⟨va', vc', rfl⟩ := own_form hown
      have HX : Hid (∀ u ∈ xs ++ [Value.int .i64 x, .int .i64 y], ∃ z : Int, u = .int .i64 z) := fun u hu => by
        rcases List.mem_append.1 hu with h | h
        · exact hX u h
        · simp at h
          rcases h with rfl | rfl
          · exact ⟨_, rfl⟩
          · exact ⟨_, rfl⟩
      clear hown hgrow HO HD HN
      go_wp2
      go_roundw
      case rel => exact ⟨k + 1, _, by omega, by go_num, HO4.out, HX.out, HD4.out⟩
      case measure => simp [intOf]; omega
    · obtain rfl : k = 4 := by omega
      obtain ⟨g, cap, rfl, hg⟩ := own_form4 hO
      have R := Rw.of hO hX
      have hgB : g ≠ w.heap.size + 1 + 1 + 1 + 1 := by omega
      clear hO hX
      go_wp2_with fail
      refine (once_any _ a n c W wr hD.b (Nat.le_of_eq HWs.out) hD.k HS hn 3 (by decide) (by decide)).mono ?_
      rintro e w5 ⟨t, rfl, d5⟩
      have R := R.drawn d5 hgB
      have hD := hD.then d5
      clear d5
      cases t
      · go_wp2
        obtain ⟨V, hV⟩ : ∃ V : World, V = w5 := ⟨_, rfl⟩
        subst hV
        have BV := hD.b
        obtain ⟨r0, p0⟩ := R.c 0 (by decide)
        obtain ⟨r1, p1⟩ := R.c 1 (by decide)
        obtain ⟨r2, p2⟩ := R.c 2 (by decide)
        obtain ⟨r3, p3⟩ := R.c 3 (by decide)
        obtain ⟨r4, p4⟩ := R.c 4 (by decide)
        obtain ⟨r5, p5⟩ := R.c 5 (by decide)
        obtain ⟨r6, p6⟩ := R.c 6 (by decide)
        obtain ⟨r7, p7⟩ := R.c 7 (by decide)
        have Y0 := Z0.bel BV
        have z0 := Y0.c0
        have z1 := Y0.c1
        have q0 := Y0.fr 0
        have q1 := Y0.fr 1
        have n0 : ¬ g = w.heap.size := by omega
        have Y1 := Z1.bel BV
        have z2 := Y1.c0
        have z3 := Y1.c1
        have q2 := Y1.fr 0
        have q3 := Y1.fr 1
        have n1 : ¬ g = w.heap.size + 1 := by omega
        have Y2 := Z2.bel BV
        have z4 := Y2.c0
        have z5 := Y2.c1
        have q4 := Y2.fr 0
        have q5 := Y2.fr 1
        have n2 : ¬ g = w.heap.size + 1 + 1 := by omega
        have Y3 := Z3.bel BV
        have z6 := Y3.c0
        have z7 := Y3.c1
        have q6 := Y3.fr 0
        have q7 := Y3.fr 1
        have n3 : ¬ g = w.heap.size + 1 + 1 + 1 := by omega
        have BB := bel_step hW BV
        clear hD R BV hgB
        go_region_held3 (fun w' => w'.cell? ⟨g, 0, none⟩ = some (.int .i64 r0) ∧ w'.cell? ⟨g, 1, none⟩ = some (.int .i64 r1) ∧ w'.cell? ⟨g, 2, none⟩ = some (.int .i64 r2) ∧ w'.cell? ⟨g, 3, none⟩ = some (.int .i64 r3) ∧ w'.cell? ⟨g, 4, none⟩ = some (.int .i64 r4) ∧ w'.cell? ⟨g, 5, none⟩ = some (.int .i64 r5) ∧ w'.cell? ⟨g, 6, none⟩ = some (.int .i64 r6) ∧ w'.cell? ⟨g, 7, none⟩ = some (.int .i64 r7)) (refine ⟨?_, ?_, ?_, ?_, ?_, ?_, ?_, ?_⟩ <;> simp [go_sem, p0, p1, p2, p3, p4, p5, p6, p7]) (fail)
        all_goals
          go_wp2
          exact bodyPost_ret (v := .tuple #[pt r0 r1, pt r2 r3, pt r4 r5, pt r6 r7]) (by simp [results, Try.results8, go_sem, z0, z1, z2, z3, z4, z5, z6, z7]) rfl ⟨_, _, _, _, _, _, _, _, rfl, Bel.drew (bel_set (bel_set (bel_set (bel_set (bel_set (bel_set (bel_set (bel_set BB (Nat.le_refl _) _) (Nat.le_refl _) _) (Nat.le_succ _) _) (Nat.le_succ _) _) (Nat.le_add_right _ 2) _) (Nat.le_add_right _ 2) _) (Nat.le_add_right _ 3) _) (Nat.le_add_right _ 3) _)⟩
      · go_wp2_with fail
        refine (below_any _ a n c W w5 hD.b (Nat.le_of_eq HWs.out) hD.k HS hn 4 (by decide) (by decide)).mono ?_
        rintro e w6 ⟨m, rfl, ⟨m0, m1⟩, d6⟩
        have R := R.drawn d6 hgB
        have hD := hD.then d6
        clear d6
        go_wp2_with fail
        refine (drawPoint_any _ a n c W w6 hD.b (Nat.le_of_eq HWs.out) hD.k HS hn).mono ?_
        rintro e w7 ⟨x, y, rfl, d7⟩
        have R := R.drawn d7 hgB
        have hD := hD.then d7
        clear d7
        have hgW : W.heap.size ≤ g := by omega
        rcases (show m = 0 ∨ m = 1 ∨ m = 2 ∨ m = 3 by omega) with rfl | rfl | rfl | rfl
        · have f0 := R.fr 0
          have f1 := R.fr 1
          obtain ⟨u0, g0⟩ := R.c 0 (by decide)
          obtain ⟨u1, g1⟩ := R.c 1 (by decide)
          go_wp2
          have R := (R.set 0 x).set 1 y
          have BV : Bel W ((w7.setCell ⟨g, 0, none⟩ (.int .i64 x)).setCell ⟨g, 1, none⟩ (.int .i64 y)) := bel_set (bel_set hD.b hgW _) hgW _
          clear f0 f1 g0 g1
          generalize (w7.setCell ⟨g, 0, none⟩ (.int .i64 x)).setCell ⟨g, 1, none⟩ (.int .i64 y) = V at R BV ⊢
          obtain ⟨r0, p0⟩ := R.c 0 (by decide)
          obtain ⟨r1, p1⟩ := R.c 1 (by decide)
          obtain ⟨r2, p2⟩ := R.c 2 (by decide)
          obtain ⟨r3, p3⟩ := R.c 3 (by decide)
          obtain ⟨r4, p4⟩ := R.c 4 (by decide)
          obtain ⟨r5, p5⟩ := R.c 5 (by decide)
          obtain ⟨r6, p6⟩ := R.c 6 (by decide)
          obtain ⟨r7, p7⟩ := R.c 7 (by decide)
          have Y0 := Z0.bel BV
          have z0 := Y0.c0
          have z1 := Y0.c1
          have q0 := Y0.fr 0
          have q1 := Y0.fr 1
          have n0 : ¬ g = w.heap.size := by omega
          have Y1 := Z1.bel BV
          have z2 := Y1.c0
          have z3 := Y1.c1
          have q2 := Y1.fr 0
          have q3 := Y1.fr 1
          have n1 : ¬ g = w.heap.size + 1 := by omega
          have Y2 := Z2.bel BV
          have z4 := Y2.c0
          have z5 := Y2.c1
          have q4 := Y2.fr 0
          have q5 := Y2.fr 1
          have n2 : ¬ g = w.heap.size + 1 + 1 := by omega
          have Y3 := Z3.bel BV
          have z6 := Y3.c0
          have z7 := Y3.c1
          have q6 := Y3.fr 0
          have q7 := Y3.fr 1
          have n3 : ¬ g = w.heap.size + 1 + 1 + 1 := by omega
          have BB := bel_step hW BV
          clear hD R BV hgB
          go_region_held3 (fun w' => w'.cell? ⟨g, 0, none⟩ = some (.int .i64 r0) ∧ w'.cell? ⟨g, 1, none⟩ = some (.int .i64 r1) ∧ w'.cell? ⟨g, 2, none⟩ = some (.int .i64 r2) ∧ w'.cell? ⟨g, 3, none⟩ = some (.int .i64 r3) ∧ w'.cell? ⟨g, 4, none⟩ = some (.int .i64 r4) ∧ w'.cell? ⟨g, 5, none⟩ = some (.int .i64 r5) ∧ w'.cell? ⟨g, 6, none⟩ = some (.int .i64 r6) ∧ w'.cell? ⟨g, 7, none⟩ = some (.int .i64 r7)) (refine ⟨?_, ?_, ?_, ?_, ?_, ?_, ?_, ?_⟩ <;> simp [go_sem, p0, p1, p2, p3, p4, p5, p6, p7]) (fail)
          all_goals
            go_wp2
            exact bodyPost_ret (v := .tuple #[pt r0 r1, pt r2 r3, pt r4 r5, pt r6 r7]) (by simp [results, Try.results8, go_sem, z0, z1, z2, z3, z4, z5, z6, z7]) rfl ⟨_, _, _, _, _, _, _, _, rfl, Bel.drew (bel_set (bel_set (bel_set (bel_set (bel_set (bel_set (bel_set (bel_set BB (Nat.le_refl _) _) (Nat.le_refl _) _) (Nat.le_succ _) _) (Nat.le_succ _) _) (Nat.le_add_right _ 2) _) (Nat.le_add_right _ 2) _) (Nat.le_add_right _ 3) _) (Nat.le_add_right _ 3) _)⟩
        · have f0 := R.fr 2
          have f1 := R.fr 3
          obtain ⟨u0, g0⟩ := R.c 2 (by decide)
          obtain ⟨u1, g1⟩ := R.c 3 (by decide)
          go_wp2
          have R := (R.set 2 x).set 3 y
          have BV : Bel W ((w7.setCell ⟨g, 2, none⟩ (.int .i64 x)).setCell ⟨g, 3, none⟩ (.int .i64 y)) := bel_set (bel_set hD.b hgW _) hgW _
          clear f0 f1 g0 g1
          generalize (w7.setCell ⟨g, 2, none⟩ (.int .i64 x)).setCell ⟨g, 3, none⟩ (.int .i64 y) = V at R BV ⊢
          obtain ⟨r0, p0⟩ := R.c 0 (by decide)
          obtain ⟨r1, p1⟩ := R.c 1 (by decide)
          obtain ⟨r2, p2⟩ := R.c 2 (by decide)
          obtain ⟨r3, p3⟩ := R.c 3 (by decide)
          obtain ⟨r4, p4⟩ := R.c 4 (by decide)
          obtain ⟨r5, p5⟩ := R.c 5 (by decide)
          obtain ⟨r6, p6⟩ := R.c 6 (by decide)
          obtain ⟨r7, p7⟩ := R.c 7 (by decide)
          have Y0 := Z0.bel BV
          have z0 := Y0.c0
          have z1 := Y0.c1
          have q0 := Y0.fr 0
          have q1 := Y0.fr 1
          have n0 : ¬ g = w.heap.size := by omega
          have Y1 := Z1.bel BV
          have z2 := Y1.c0
          have z3 := Y1.c1
          have q2 := Y1.fr 0
          have q3 := Y1.fr 1
          have n1 : ¬ g = w.heap.size + 1 := by omega
          have Y2 := Z2.bel BV
          have z4 := Y2.c0
          have z5 := Y2.c1
          have q4 := Y2.fr 0
          have q5 := Y2.fr 1
          have n2 : ¬ g = w.heap.size + 1 + 1 := by omega
          have Y3 := Z3.bel BV
          have z6 := Y3.c0
          have z7 := Y3.c1
          have q6 := Y3.fr 0
          have q7 := Y3.fr 1
          have n3 : ¬ g = w.heap.size + 1 + 1 + 1 := by omega
          have BB := bel_step hW BV
          clear hD R BV hgB
          go_region_held3 (fun w' => w'.cell? ⟨g, 0, none⟩ = some (.int .i64 r0) ∧ w'.cell? ⟨g, 1, none⟩ = some (.int .i64 r1) ∧ w'.cell? ⟨g, 2, none⟩ = some (.int .i64 r2) ∧ w'.cell? ⟨g, 3, none⟩ = some (.int .i64 r3) ∧ w'.cell? ⟨g, 4, none⟩ = some (.int .i64 r4) ∧ w'.cell? ⟨g, 5, none⟩ = some (.int .i64 r5) ∧ w'.cell? ⟨g, 6, none⟩ = some (.int .i64 r6) ∧ w'.cell? ⟨g, 7, none⟩ = some (.int .i64 r7)) (refine ⟨?_, ?_, ?_, ?_, ?_, ?_, ?_, ?_⟩ <;> simp [go_sem, p0, p1, p2, p3, p4, p5, p6, p7]) (fail)
          all_goals
            go_wp2
            exact bodyPost_ret (v := .tuple #[pt r0 r1, pt r2 r3, pt r4 r5, pt r6 r7]) (by simp [results, Try.results8, go_sem, z0, z1, z2, z3, z4, z5, z6, z7]) rfl ⟨_, _, _, _, _, _, _, _, rfl, Bel.drew (bel_set (bel_set (bel_set (bel_set (bel_set (bel_set (bel_set (bel_set BB (Nat.le_refl _) _) (Nat.le_refl _) _) (Nat.le_succ _) _) (Nat.le_succ _) _) (Nat.le_add_right _ 2) _) (Nat.le_add_right _ 2) _) (Nat.le_add_right _ 3) _) (Nat.le_add_right _ 3) _)⟩
        · have f0 := R.fr 4
          have f1 := R.fr 5
          obtain ⟨u0, g0⟩ := R.c 4 (by decide)
          obtain ⟨u1, g1⟩ := R.c 5 (by decide)
          go_wp2
          have R := (R.set 4 x).set 5 y
          have BV : Bel W ((w7.setCell ⟨g, 4, none⟩ (.int .i64 x)).setCell ⟨g, 5, none⟩ (.int .i64 y)) := bel_set (bel_set hD.b hgW _) hgW _
          clear f0 f1 g0 g1
          generalize (w7.setCell ⟨g, 4, none⟩ (.int .i64 x)).setCell ⟨g, 5, none⟩ (.int .i64 y) = V at R BV ⊢
          obtain ⟨r0, p0⟩ := R.c 0 (by decide)
          obtain ⟨r1, p1⟩ := R.c 1 (by decide)
          obtain ⟨r2, p2⟩ := R.c 2 (by decide)
          obtain ⟨r3, p3⟩ := R.c 3 (by decide)
          obtain ⟨r4, p4⟩ := R.c 4 (by decide)
          obtain ⟨r5, p5⟩ := R.c 5 (by decide)
          obtain ⟨r6, p6⟩ := R.c 6 (by decide)
          obtain ⟨r7, p7⟩ := R.c 7 (by decide)
          have Y0 := Z0.bel BV
          have z0 := Y0.c0
          have z1 := Y0.c1
          have q0 := Y0.fr 0
          have q1 := Y0.fr 1
          have n0 : ¬ g = w.heap.size := by omega
          have Y1 := Z1.bel BV
          have z2 := Y1.c0
          have z3 := Y1.c1
          have q2 := Y1.fr 0
          have q3 := Y1.fr 1
          have n1 : ¬ g = w.heap.size + 1 := by omega
          have Y2 := Z2.bel BV
          have z4 := Y2.c0
          have z5 := Y2.c1
          have q4 := Y2.fr 0
          have q5 := Y2.fr 1
          have n2 : ¬ g = w.heap.size + 1 + 1 := by omega
          have Y3 := Z3.bel BV
          have z6 := Y3.c0
          have z7 := Y3.c1
          have q6 := Y3.fr 0
          have q7 := Y3.fr 1
          have n3 : ¬ g = w.heap.size + 1 + 1 + 1 := by omega
          have BB := bel_step hW BV
          clear hD R BV hgB
          go_region_held3 (fun w' => w'.cell? ⟨g, 0, none⟩ = some (.int .i64 r0) ∧ w'.cell? ⟨g, 1, none⟩ = some (.int .i64 r1) ∧ w'.cell? ⟨g, 2, none⟩ = some (.int .i64 r2) ∧ w'.cell? ⟨g, 3, none⟩ = some (.int .i64 r3) ∧ w'.cell? ⟨g, 4, none⟩ = some (.int .i64 r4) ∧ w'.cell? ⟨g, 5, none⟩ = some (.int .i64 r5) ∧ w'.cell? ⟨g, 6, none⟩ = some (.int .i64 r6) ∧ w'.cell? ⟨g, 7, none⟩ = some (.int .i64 r7)) (refine ⟨?_, ?_, ?_, ?_, ?_, ?_, ?_, ?_⟩ <;> simp [go_sem, p0, p1, p2, p3, p4, p5, p6, p7]) (fail)
          all_goals
            go_wp2
            exact bodyPost_ret (v := .tuple #[pt r0 r1, pt r2 r3, pt r4 r5, pt r6 r7]) (by simp [results, Try.results8, go_sem, z0, z1, z2, z3, z4, z5, z6, z7]) rfl ⟨_, _, _, _, _, _, _, _, rfl, Bel.drew (bel_set (bel_set (bel_set (bel_set (bel_set (bel_set (bel_set (bel_set BB (Nat.le_refl _) _) (Nat.le_refl _) _) (Nat.le_succ _) _) (Nat.le_succ _) _) (Nat.le_add_right _ 2) _) (Nat.le_add_right _ 2) _) (Nat.le_add_right _ 3) _) (Nat.le_add_right _ 3) _)⟩
        · have f0 := R.fr 6
          have f1 := R.fr 7
          obtain ⟨u0, g0⟩ := R.c 6 (by decide)
          obtain ⟨u1, g1⟩ := R.c 7 (by decide)
          go_wp2
          have R := (R.set 6 x).set 7 y
          have BV : Bel W ((w7.setCell ⟨g, 6, none⟩ (.int .i64 x)).setCell ⟨g, 7, none⟩ (.int .i64 y)) := bel_set (bel_set hD.b hgW _) hgW _
          clear f0 f1 g0 g1
          generalize (w7.setCell ⟨g, 6, none⟩ (.int .i64 x)).setCell ⟨g, 7, none⟩ (.int .i64 y) = V at R BV ⊢
          obtain ⟨r0, p0⟩ := R.c 0 (by decide)
          obtain ⟨r1, p1⟩ := R.c 1 (by decide)
          obtain ⟨r2, p2⟩ := R.c 2 (by decide)
          obtain ⟨r3, p3⟩ := R.c 3 (by decide)
          obtain ⟨r4, p4⟩ := R.c 4 (by decide)
          obtain ⟨r5, p5⟩ := R.c 5 (by decide)
          obtain ⟨r6, p6⟩ := R.c 6 (by decide)
          obtain ⟨r7, p7⟩ := R.c 7 (by decide)
          have Y0 := Z0.bel BV
          have z0 := Y0.c0
          have z1 := Y0.c1
          have q0 := Y0.fr 0
          have q1 := Y0.fr 1
          have n0 : ¬ g = w.heap.size := by omega
          have Y1 := Z1.bel BV
          have z2 := Y1.c0
          have z3 := Y1.c1
          have q2 := Y1.fr 0
          have q3 := Y1.fr 1
          have n1 : ¬ g = w.heap.size + 1 := by omega
          have Y2 := Z2.bel BV
          have z4 := Y2.c0
          have z5 := Y2.c1
          have q4 := Y2.fr 0
          have q5 := Y2.fr 1
          have n2 : ¬ g = w.heap.size + 1 + 1 := by omega
          have Y3 := Z3.bel BV
          have z6 := Y3.c0
          have z7 := Y3.c1
          have q6 := Y3.fr 0
          have q7 := Y3.fr 1
          have n3 : ¬ g = w.heap.size + 1 + 1 + 1 := by omega
          have BB := bel_step hW BV
          clear hD R BV hgB
          go_region_held3 (fun w' => w'.cell? ⟨g, 0, none⟩ = some (.int .i64 r0) ∧ w'.cell? ⟨g, 1, none⟩ = some (.int .i64 r1) ∧ w'.cell? ⟨g, 2, none⟩ = some (.int .i64 r2) ∧ w'.cell? ⟨g, 3, none⟩ = some (.int .i64 r3) ∧ w'.cell? ⟨g, 4, none⟩ = some (.int .i64 r4) ∧ w'.cell? ⟨g, 5, none⟩ = some (.int .i64 r5) ∧ w'.cell? ⟨g, 6, none⟩ = some (.int .i64 r6) ∧ w'.cell? ⟨g, 7, none⟩ = some (.int .i64 r7)) (refine ⟨?_, ?_, ?_, ?_, ?_, ?_, ?_, ?_⟩ <;> simp [go_sem, p0, p1, p2, p3, p4, p5, p6, p7]) (fail)
          all_goals
            go_wp2
            exact bodyPost_ret (v := .tuple #[pt r0 r1, pt r2 r3, pt r4 r5, pt r6 r7]) (by simp [results, Try.results8, go_sem, z0, z1, z2, z3, z4, z5, z6, z7]) rfl ⟨_, _, _, _, _, _, _, _, rfl, Bel.drew (bel_set (bel_set (bel_set (bel_set (bel_set (bel_set (bel_set (bel_set BB (Nat.le_refl _) _) (Nat.le_refl _) _) (Nat.le_succ _) _) (Nat.le_succ _) _) (Nat.le_add_right _ 2) _) (Nat.le_add_right _ 2) _) (Nat.le_add_right _ 3) _) (Nat.le_add_right _ 3) _)⟩
end Go.Proofs.Ytkncogipffofeaa
