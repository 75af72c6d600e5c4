/-
  What the model draws for Weight: labels of any numbers, a list of Ids.
  A row of drawn numbers as a list.
-/
import Derived.Test.YtpbpnkklnbmkeaaDrawY
import Derived.Test.YtpbpnkklnbmkeaaLblC
import Derived.Test.YtpbpnkklnbmkeaaOwnB
import Derived.Deep.CutBlock
namespace Go.Proofs.Ytpbpnkklnbmkeaa
open Go.RowKit Go.Maps

def IntL (xs : List Value) : Prop := ∀ u ∈ xs, ∃ z : Int, u = .int .i64 z ∧ In64 z
theorem in64_wrap64 (x : Int) : In64 (wrap64 x) := by unfold wrap64 In64; omega
theorem IntL.add {xs ys : List Value} (h : IntL xs) (k : IntL ys) : IntL (xs ++ ys) := fun u hu => by
  rcases List.mem_append.1 hu with h1 | h1
  · exact h u h1
  · exact k u h1
theorem IntL.set {xs : List Value} (h : IntL xs) (j : Nat) {z : Int} (hz : In64 z) : IntL (xs.set j (.int .i64 z)) := fun u hu => by
  rcases List.mem_or_eq_of_mem_set hu with h1 | rfl
  · exact h u h1
  · exact ⟨z, rfl, hz⟩
theorem intL6 {a b c d e f : Int} (ha : In64 a) (hb : In64 b) (hc : In64 c) (hd : In64 d) (he : In64 e) (hf : In64 f) : IntL [.int .i64 a, .int .i64 b, .int .i64 c, .int .i64 d, .int .i64 e, .int .i64 f] := fun u hu => by
  simp only [List.mem_cons, List.not_mem_nil, or_false] at hu
  rcases hu with rfl | rfl | rfl | rfl | rfl | rfl
  · exact ⟨_, rfl, ha⟩
  · exact ⟨_, rfl, hb⟩
  · exact ⟨_, rfl, hc⟩
  · exact ⟨_, rfl, hd⟩
  · exact ⟨_, rfl, he⟩
  · exact ⟨_, rfl, hf⟩
theorem own_lbl {w : World} {base m : Nat} {v : Value} {xs : List Value} (h : w.ownsRow base 33 6 v m xs) (hx : IntL xs) :
    ∃ (a : Option Addr) (c : Nat) (l : List LblD) (bs : List Nat), v = .slice a m c ∧ m ≤ c ∧ l.length = m ∧ LblL w a l bs ∧ ∀ x ∈ bs, base ≤ x ∧ x < w.heap.size := by
  rcases h.2 with ⟨rfl, rfl⟩ | ⟨g, cap, cur, rfl, hb, hg, hc, _⟩
  · exact ⟨none, 0, [], [], rfl, Nat.le_refl _, rfl, .inl ⟨rfl, rfl⟩, by simp⟩
  · have key : ∀ j, j < m * 6 → w.cell? ⟨g, j, none⟩ = some (.int .i64 (intOf (xs.getD j (.int .i64 0)))) ∧ In64 (intOf (xs.getD j (.int .i64 0))) := fun j hj => by
      have hl : j < xs.length := by rw [h.1]; exact hj
      obtain ⟨z, e, iz⟩ := hx xs[j] (List.getElem_mem hl)
      have e2 : xs.getD j (.int .i64 0) = .int .i64 z := by simp [List.getD, hl, e]
      rw [h.cellAt j hj, List.getElem?_eq_getElem hl, e2, e]
      exact ⟨rfl, iz⟩
    let N := fun j : Nat => intOf (xs.getD j (.int .i64 0))
    refine ⟨some ⟨g, 0, none⟩, cap, (List.range m).map fun i => ⟨N (i * 6), N (i * 6 + 1), N (i * 6 + 2), N (i * 6 + 3), N (i * 6 + 4), N (i * 6 + 5)⟩, _, rfl, hc, by simp, .inr ⟨g, 0, fun _ => [], rfl, (h.lt g rfl).2, rfl, fun i hi => ?_⟩, fun x hx => ?_⟩
    · simp only [List.length_map, List.length_range] at hi
      simp only [List.getElem_map, List.getElem_range, Nat.zero_add]
      exact ⟨rfl, (key (i * 6) (by omega)).2, (key (i * 6 + 1) (by omega)).2, (key (i * 6 + 2) (by omega)).2, (key (i * 6 + 3) (by omega)).2, (key (i * 6 + 4) (by omega)).2, (key (i * 6 + 5) (by omega)).2,
        (key (i * 6) (by omega)).1, (key (i * 6 + 1) (by omega)).1, (key (i * 6 + 2) (by omega)).1, (key (i * 6 + 3) (by omega)).1, (key (i * 6 + 4) (by omega)).1, (key (i * 6 + 5) (by omega)).1⟩
    · simp at hx
      obtain ⟨_, _, rfl⟩ := hx
      exact ⟨hb, (h.lt g rfl).2⟩

/-- The labels that are being drawn: a row of its own. -/
structure LbR (base : Nat) (w0 w : World) (B : Nat) (a : Option Addr) (n c : Nat) (v : Value) (k : Nat) (w' : World) : Prop where
  row : ∃ xs, w'.ownsRow base 33 6 v k xs ∧ IntL xs
  d : Drawn w0 w B a n c w'
theorem LbR.drawn {base : Nat} {w0 w : World} {B : Nat} {a : Option Addr} {n c : Nat} {v : Value} {k : Nat} {w1 w2 : World} (h : LbR base w0 w B a n c v k w1) (d : Drawn w0 w1 B a n c w2) (hB : B < base) : LbR base w0 w B a n c v k w2 :=
  ⟨h.row.elim fun xs r => ⟨xs, own_drawn r.1 d hB, r.2⟩, h.d.then d⟩
theorem LbR.form {base : Nat} {w0 w : World} {B : Nat} {a : Option Addr} {n c : Nat} {v : Value} {k : Nat} {w1 : World} (h : LbR base w0 w B a n c v k w1) : ∃ va vc, v = .slice va k vc := by
  obtain ⟨xs, r, _⟩ := h.row
  rcases r.2 with ⟨rfl, rfl⟩ | ⟨g, cap, cur, rfl, _⟩
  · exact ⟨_, _, rfl⟩
  · exact ⟨_, _, rfl⟩
theorem LbR.bel {base : Nat} {w0 w : World} {B : Nat} {a : Option Addr} {n c : Nat} {v : Value} {k : Nat} {w1 : World} (h : LbR base w0 w B a n c v k w1) (o : Obj) : LbR base w0 w B a n c v k (w1.alloc o) :=
  ⟨h.row.elim fun xs r => ⟨xs, r.1.alloc o, r.2⟩, h.d.bel (bel_alloc (Bel.refl _) o)⟩
/-- A number of a label is set. -/
theorem LbR.set {base : Nat} {w0 w : World} {B : Nat} {a : Option Addr} {n c : Nat} {g vc k : Nat} {w1 : World} (h : LbR base w0 w B a n c (.slice (some ⟨g, 0, none⟩) k vc) k w1) (h0 : w0.heap.size ≤ w.heap.size) (hw : w.heap.size ≤ base) (hB : B < w.heap.size) (j : Nat) {z : Int} (hz : In64 z) :
    LbR base w0 w B a n c (.slice (some ⟨g, 0, none⟩) k vc) k (w1.setCell ⟨g, j, none⟩ (.int .i64 z)) := by
  obtain ⟨xs, r, i⟩ := h.row
  have hs := r.stored j (.int .i64 z)
  exact ⟨⟨_, hs.1, i.set j hz⟩, h.d.grown hs.2 h0 hB (fun q e => by injection e with e; subst e; exact Nat.le_trans hw (r.lt g rfl).1)⟩

set_option maxRecDepth 100000 in
set_option maxHeartbeats 8000000 in
theorem drawLbl_any (B : Nat) (a : Option Addr) (n c : Nat) (w0 w : World) (hb : Bel w0 w) (hB : w0.heap.size ≤ B) (hC : Cur w B a n c) (hS : Bts w0 a n) (hn : n ≤ 1048576) :
    Calls Try.prog 27 #[.pointer (some ⟨B, 0, none⟩)] w fun e w' => ∃ (v : Value) (m : Nat), e = .returned v ∧ m ≤ 502 ∧ LbR w.heap.size w0 w B a n c v m w' := by
  have hB1 : B < w.heap.size := hC.lt
  have hBl : w0.heap.size ≤ w.heap.size := hb.out.size
  have D1 : Drawn w0 w B a n c (w.alloc (.cells #[] 33)) := Drawn.bel ⟨hb, OnlyB.refl _ _, hC⟩ (bel_alloc (Bel.refl _) _)
  have O1 : LbR w.heap.size w0 w B a n c (.slice (some ⟨w.heap.size, 0, none⟩) 0 0) 0 (w.alloc (.cells #[] 33)) :=
    ⟨⟨[], World.ownsRow_lit w #[] 0 (Nat.le_refl _) (Nat.zero_le _) rfl, fun u hu => by cases hu⟩, D1⟩
  obtain ⟨i0, hi, hz0, hz1, hz2⟩ := info_parts infoLb
  go_enter Try.func27, Try.ntmps27
  go_wp2_with fail
  refine (below_any B a n c w0 _ D1.b hB D1.k hS hn 10 (by decide) (by decide)).mono ?_
  rintro e w1 ⟨t, rfl, ⟨t0, t1⟩, d1⟩
  obtain ⟨kk, rfl⟩ : ∃ m : Nat, t = m := ⟨t.toNat, by omega⟩
  have O2 : Hid (LbR w.heap.size w0 w B a n c (.slice (some ⟨w.heap.size, 0, none⟩) 0 0) 0 w1) := O1.drawn d1 hB1
  clear d1 O1 D1
  go_wp2
  go_loopw [3, 4] (fun r i wr => ∃ (k j : Nat), j + k ≤ 9 ∧ i = .int .i64 k ∧ LbR w.heap.size w0 w B a n c r j wr) (fun _ i _ => (intOf i).toNat)
  case atStart => exact ⟨kk, 0, by omega, rfl, O2.out⟩
  case round =>
    obtain ⟨k, j, hk, rfl, hO⟩ := hrel
    clear O2
    obtain ⟨va, vc, rfl⟩ := hO.form
    by_cases hlt : 0 < k
    · have hlt' : (0 : Int) < (k : Int) := by omega
      go_wp2_with fail
      refine (below_any B a n c w0 wr hO.d.b hB hO.d.k hS hn 60 (by decide) (by decide)).mono ?_
      rintro e w2 ⟨x, rfl, ⟨x0, x1⟩, d2⟩
      have hO := hO.drawn d2 hB1
      clear d2
      go_wp2_with fail
      refine (below_any B a n c w0 w2 hO.d.b hB hO.d.k hS hn 30 (by decide) (by decide)).mono ?_
      rintro e w3 ⟨y, rfl, ⟨y0, y1⟩, d2⟩
      have hO := hO.drawn d2 hB1
      clear d2
      go_wp2_with fail
      refine (below_any B a n c w0 w3 hO.d.b hB hO.d.k hS hn 20 (by decide) (by decide)).mono ?_
      rintro e w4 ⟨p, rfl, ⟨p0, p1⟩, d2⟩
      have hO := hO.drawn d2 hB1
      clear d2
      go_wp2_with fail
      refine (below_any B a n c w0 w4 hO.d.b hB hO.d.k hS hn 10 (by decide) (by decide)).mono ?_
      rintro e w5 ⟨q, rfl, ⟨q0, q1⟩, d2⟩
      have hO := hO.drawn d2 hB1
      clear d2
      go_wp2_with fail
      refine (below_any B a n c w0 w5 hO.d.b hB hO.d.k hS hn 12 (by decide) (by decide)).mono ?_
      rintro e w6 ⟨s, rfl, ⟨s0, s1⟩, d2⟩
      have hO := hO.drawn d2 hB1
      clear d2
      have iX : In64 x := ⟨by omega, by omega⟩
      have iY : In64 y := ⟨by omega, by omega⟩
      have HN : Hid (∀ (jj : Nat) (u : Value), [Value.int .i64 (20 - (k : Int)), .int .i64 x, .int .i64 y, .int .i64 (1 + p), .int .i64 (1 + q), .int .i64 (10 * s)][jj]? = some u → (w6.alloc (.cells #[.int .i64 (20 - (k : Int)), .int .i64 x, .int .i64 y, .int .i64 (1 + p), .int .i64 (1 + q), .int .i64 (10 * s)] 33)).cell? ((⟨w6.heap.size, 0, none⟩ : Addr).add jj) = some u) :=
        World.news_of_block (cs := #[.int .i64 (20 - (k : Int)), .int .i64 x, .int .i64 y, .int .i64 (1 + p), .int .i64 (1 + q), .int .i64 (10 * s)]) (t := 33) (fr := (0, 0)) (heap_alloc_new w6 _)
      have hs6 : w.heap.size ≤ w6.heap.size := hO.d.o.size
      have iL : IntL [Value.int .i64 (20 - (k : Int)), .int .i64 x, .int .i64 y, .int .i64 (1 + p), .int .i64 (1 + q), .int .i64 (10 * s)] := intL6 ⟨by omega, by omega⟩ iX iY ⟨by omega, by omega⟩ ⟨by omega, by omega⟩ ⟨by omega, by omega⟩
      obtain ⟨xs, hr, hx⟩ := (hO.bel (.cells #[.int .i64 (20 - (k : Int)), .int .i64 x, .int .i64 y, .int .i64 (1 + p), .int .i64 (1 + q), .int .i64 (10 * s)] 33)).row
      have hd := (hO.bel (.cells #[.int .i64 (20 - (k : Int)), .int .i64 x, .int .i64 y, .int .i64 (1 + p), .int .i64 (1 + q), .int .i64 (10 * s)] 33)).d
      have HX : Hid (IntL (xs ++ [Value.int .i64 (20 - (k : Int)), .int .i64 x, .int .i64 y, .int .i64 (1 + p), .int .i64 (1 + q), .int .i64 (10 * s)])) := hx.add iL
      have HO : Hid ((w6.alloc (.cells #[.int .i64 (20 - (k : Int)), .int .i64 x, .int .i64 y, .int .i64 (1 + p), .int .i64 (1 + q), .int .i64 (10 * s)] 33)).ownsRow w.heap.size 33 6 (.slice va j vc) j xs) := hr
      have HD : Hid (Drawn w0 w B a n c (w6.alloc (.cells #[.int .i64 (20 - (k : Int)), .int .i64 x, .int .i64 y, .int .i64 (1 + p), .int .i64 (1 + q), .int .i64 (10 * s)] 33))) := hd
      clear hr hd hx iL hO
      go_wp2_with (first
        | (at_builtin; refine wpList_append_own _ rfl _ _ 24 rfl w.heap.size 33 i0 (.agg #[.int .i64 0, .int .i64 0, .int .i64 0, .int .i64 0, .int .i64 0, .int .i64 0]) 6 48 Try.underlying24 hi hz0 hz1 hz2 rfl (by decide) _ _ _ rfl HO.out ⟨w6.heap.size, 0, none⟩ 1 1 [.int .i64 (20 - (k : Int)), .int .i64 x, .int .i64 y, .int .i64 (1 + p), .int .i64 (1 + q), .int .i64 (10 * s)] rfl rfl HN.out (by simp [Value.oneCell']) (by unfold maxLen; omega) (by omega) (by simp; omega) ?_)
        | go_in)
      intro v' w7 hown hgrow _
      have HD4 : Hid (Drawn w0 w B a n c w7) := HD.out.grown hgrow hBl hB1 (fun q e => (HO.out.lt q e).1)
      have HO4 : Hid (LbR w.heap.size w0 w B a n c v' (j + 1) w7) := ⟨⟨_, hown, HX.out⟩, HD4.out⟩
      obtain ⟨va', vc', rfl⟩ := HO4.out.form
      clear hown hgrow HO HD HN HX HD4
      go_wp2
      go_roundw
      case rel => exact ⟨k - 1, j + 1, by omega, by go_num, HO4.out⟩
      case measure => simp [intOf]; omega
    · obtain rfl : k = 0 := by omega
      have hj : j ≤ 9 := by omega
      go_upto_region 6 with fail
      go_cut [40] (fun t wx => ∃ b : Bool, t = .bool b ∧ Hid (b = true → 0 < j) ∧ LbR w.heap.size w0 w B a n c (.slice va j vc) j wx)
      case first =>
        go_wp2_with fail
        refine (once_any B a n c w0 wr hO.d.b hB hO.d.k hS hn 12 (by decide) (by decide)).mono ?_
        rintro e w2 ⟨t, rfl, d2⟩
        have hO := hO.drawn d2 hB1
        clear d2
        cases t
        · go_wp2
          go_meet
          case rel => exact ⟨false, rfl, (fun h => nomatch h : false = true → 0 < j), hO⟩
        · by_cases h0 : 0 < j
          · have h0' : (0 : Int) < (j : Int) := by omega
            go_wp2
            go_meet
            case rel => exact ⟨true, rfl, (fun _ => h0 : true = true → 0 < j), hO⟩
          · have h0' : ¬ (0 : Int) < (j : Int) := by omega
            go_wp2
            go_meet
            case rel => exact ⟨false, rfl, (fun h => nomatch h : false = true → 0 < j), hO⟩
      case rest =>
        obtain ⟨b, rfl, Hb, hO⟩ := hcut
        obtain ⟨wA, rfl⟩ : ∃ V, V = wc := ⟨_, rfl⟩
        go_upto_if 40 with fail
        go_cut [] (fun wx => LbR w.heap.size w0 w B a n c (.slice va j vc) j wx)
        case first =>
          cases b
          · go_wp2
            go_meet
            case rel => exact hO
          · have h0 := Hb.out rfl
            have h0' : (0 : Int) < (j : Int) := by omega
            obtain ⟨g, rfl⟩ : ∃ g, va = some ⟨g, 0, none⟩ := by
              obtain ⟨xs, r, _⟩ := hO.row
              rcases r.2 with ⟨_, rfl⟩ | ⟨g, cap, cur, e, _⟩
              · omega
              · injection e with e; exact ⟨g, e⟩
            go_wp2_with fail
            refine (below_any B a n c w0 wA hO.d.b hB hO.d.k hS hn j (by omega) (by omega)).mono ?_
            rintro e w2 ⟨x, rfl, ⟨x0, x1⟩, d2⟩
            have hO := hO.drawn d2 hB1
            clear d2
            obtain ⟨x, rfl⟩ : ∃ m : Nat, x = m := ⟨x.toNat, by omega⟩
            go_wp2_with fail
            refine (below_any B a n c w0 w2 hO.d.b hB hO.d.k hS hn 5 (by decide) (by decide)).mono ?_
            rintro e w3 ⟨y, rfl, ⟨y0, y1⟩, d2⟩
            have hO := hO.drawn d2 hB1
            clear d2
            have hO0 := hO
            have hf : ∀ (q : Nat) (v : World), LbR w.heap.size w0 w B a n c (.slice (some ⟨g, 0, none⟩) j vc) j v → v.frozen? ⟨g, q, none⟩ = false := fun q v h => by
              obtain ⟨xs, r, _⟩ := h.row
              exact r.frozenAt q
            have hc : ∀ (q : Nat) (v : World), q < j * 6 → LbR w.heap.size w0 w B a n c (.slice (some ⟨g, 0, none⟩) j vc) j v → ∃ u, v.cell? ⟨g, q, none⟩ = some u := fun q v hq h => by
              obtain ⟨xs, r, _⟩ := h.row
              exact ⟨xs[q]'(by rw [r.1]; exact hq), by rw [r.cellAt q hq, List.getElem?_eq_getElem]⟩
            have hxj : x < j := by omega
            have hx0 : (0 : Int) ≤ (x : Int) := by omega
            rcases (by omega : y = 0 ∨ y = 1 ∨ y = 2 ∨ y = 3 ∨ y = 4) with rfl | rfl | rfl | rfl | rfl
            · have hO := hO.bel (.cells #[.int .i64 0, .int .i64 19, .int .i64 1000000000, .int .i64 1000000001] 2)
              have hlt3 : B < w3.heap.size := Nat.lt_of_lt_of_le hB1 hO0.d.o.size
              go_wp2_with fail
              refine (below_any B a n c w0 _ hO.d.b hB hO.d.k hS hn 4 (by decide) (by decide)).mono ?_
              rintro e w4 ⟨q, rfl, ⟨q0, q1⟩, d2⟩
              have hcell : ∀ r, r < 4 → w4.cell? ⟨w3.heap.size, r, none⟩ = (w3.alloc (.cells #[.int .i64 0, .int .i64 19, .int .i64 1000000000, .int .i64 1000000001] 2)).cell? ⟨w3.heap.size, r, none⟩ := fun r _ => d2.o.cell w3.heap.size r (by simp) (by omega)
              have hO := hO.drawn d2 hB1
              clear d2 hO0
              rcases (by omega : q = 0 ∨ q = 1 ∨ q = 2 ∨ q = 3) with rfl | rfl | rfl | rfl
              · have y0 : w4.cell? ⟨w3.heap.size, 0, none⟩ = some (.int .i64 0) := by rw [hcell 0 (by decide)]; simp [go_sem]
                have k0 := hf (x * 6) w4 hO
                obtain ⟨u0, k1⟩ := hc (x * 6) w4 (by omega) hO
                go_wp2
                go_meet
                case rel => exact hO.set hBl (Nat.le_refl _) hB1 _ ⟨by omega, by omega⟩
              · have y0 : w4.cell? ⟨w3.heap.size, 1, none⟩ = some (.int .i64 19) := by rw [hcell 1 (by decide)]; simp [go_sem]
                have k0 := hf (x * 6) w4 hO
                obtain ⟨u0, k1⟩ := hc (x * 6) w4 (by omega) hO
                go_wp2
                go_meet
                case rel => exact hO.set hBl (Nat.le_refl _) hB1 _ ⟨by omega, by omega⟩
              · have y0 : w4.cell? ⟨w3.heap.size, 2, none⟩ = some (.int .i64 1000000000) := by rw [hcell 2 (by decide)]; simp [go_sem]
                have k0 := hf (x * 6) w4 hO
                obtain ⟨u0, k1⟩ := hc (x * 6) w4 (by omega) hO
                go_wp2
                go_meet
                case rel => exact hO.set hBl (Nat.le_refl _) hB1 _ ⟨by omega, by omega⟩
              · have y0 : w4.cell? ⟨w3.heap.size, 3, none⟩ = some (.int .i64 1000000001) := by rw [hcell 3 (by decide)]; simp [go_sem]
                have k0 := hf (x * 6) w4 hO
                obtain ⟨u0, k1⟩ := hc (x * 6) w4 (by omega) hO
                go_wp2
                go_meet
                case rel => exact hO.set hBl (Nat.le_refl _) hB1 _ ⟨by omega, by omega⟩
            · have hO := hO.bel (.cells #[.int .i64 0, .int .i64 100000, .int .i64 100001] 2)
              have hlt3 : B < w3.heap.size := Nat.lt_of_lt_of_le hB1 hO0.d.o.size
              go_wp2_with fail
              refine (below_any B a n c w0 _ hO.d.b hB hO.d.k hS hn 3 (by decide) (by decide)).mono ?_
              rintro e w4 ⟨q, rfl, ⟨q0, q1⟩, d2⟩
              have hcell : ∀ r, r < 3 → w4.cell? ⟨w3.heap.size, r, none⟩ = (w3.alloc (.cells #[.int .i64 0, .int .i64 100000, .int .i64 100001] 2)).cell? ⟨w3.heap.size, r, none⟩ := fun r _ => d2.o.cell w3.heap.size r (by simp) (by omega)
              have hO := hO.drawn d2 hB1
              clear d2 hO0
              rcases (by omega : q = 0 ∨ q = 1 ∨ q = 2) with rfl | rfl | rfl
              · have y0 : w4.cell? ⟨w3.heap.size, 0, none⟩ = some (.int .i64 0) := by rw [hcell 0 (by decide)]; simp [go_sem]
                have k0 := hf (x * 6 + 3) w4 hO
                obtain ⟨u0, k1⟩ := hc (x * 6 + 3) w4 (by omega) hO
                go_wp2
                go_meet
                case rel => exact hO.set hBl (Nat.le_refl _) hB1 _ ⟨by omega, by omega⟩
              · have y0 : w4.cell? ⟨w3.heap.size, 1, none⟩ = some (.int .i64 100000) := by rw [hcell 1 (by decide)]; simp [go_sem]
                have k0 := hf (x * 6 + 3) w4 hO
                obtain ⟨u0, k1⟩ := hc (x * 6 + 3) w4 (by omega) hO
                go_wp2
                go_meet
                case rel => exact hO.set hBl (Nat.le_refl _) hB1 _ ⟨by omega, by omega⟩
              · have y0 : w4.cell? ⟨w3.heap.size, 2, none⟩ = some (.int .i64 100001) := by rw [hcell 2 (by decide)]; simp [go_sem]
                have k0 := hf (x * 6 + 3) w4 hO
                obtain ⟨u0, k1⟩ := hc (x * 6 + 3) w4 (by omega) hO
                go_wp2
                go_meet
                case rel => exact hO.set hBl (Nat.le_refl _) hB1 _ ⟨by omega, by omega⟩
            · obtain ⟨w4, rfl⟩ : ∃ V, V = w3 := ⟨_, rfl⟩
              · have k0 := hf (x * 6 + 4) w4 hO
                obtain ⟨u0, k1⟩ := hc (x * 6 + 4) w4 (by omega) hO
                go_wp2
                go_meet
                case rel => exact hO.set hBl (Nat.le_refl _) hB1 _ ⟨by omega, by omega⟩
            · have hO := hO.bel (.cells #[.int .i64 (-1), .int .i64 1000, .int .i64 1001] 2)
              have hlt3 : B < w3.heap.size := Nat.lt_of_lt_of_le hB1 hO0.d.o.size
              go_wp2_with fail
              refine (below_any B a n c w0 _ hO.d.b hB hO.d.k hS hn 3 (by decide) (by decide)).mono ?_
              rintro e w4 ⟨q, rfl, ⟨q0, q1⟩, d2⟩
              have hcell : ∀ r, r < 3 → w4.cell? ⟨w3.heap.size, r, none⟩ = (w3.alloc (.cells #[.int .i64 (-1), .int .i64 1000, .int .i64 1001] 2)).cell? ⟨w3.heap.size, r, none⟩ := fun r _ => d2.o.cell w3.heap.size r (by simp) (by omega)
              have hO := hO.drawn d2 hB1
              clear d2 hO0
              rcases (by omega : q = 0 ∨ q = 1 ∨ q = 2) with rfl | rfl | rfl
              · have y0 : w4.cell? ⟨w3.heap.size, 0, none⟩ = some (.int .i64 (-1)) := by rw [hcell 0 (by decide)]; simp [go_sem]
                have k0 := hf (x * 6 + 5) w4 hO
                obtain ⟨u0, k1⟩ := hc (x * 6 + 5) w4 (by omega) hO
                go_wp2
                go_meet
                case rel => exact hO.set hBl (Nat.le_refl _) hB1 _ ⟨by omega, by omega⟩
              · have y0 : w4.cell? ⟨w3.heap.size, 1, none⟩ = some (.int .i64 1000) := by rw [hcell 1 (by decide)]; simp [go_sem]
                have k0 := hf (x * 6 + 5) w4 hO
                obtain ⟨u0, k1⟩ := hc (x * 6 + 5) w4 (by omega) hO
                go_wp2
                go_meet
                case rel => exact hO.set hBl (Nat.le_refl _) hB1 _ ⟨by omega, by omega⟩
              · have y0 : w4.cell? ⟨w3.heap.size, 2, none⟩ = some (.int .i64 1001) := by rw [hcell 2 (by decide)]; simp [go_sem]
                have k0 := hf (x * 6 + 5) w4 hO
                obtain ⟨u0, k1⟩ := hc (x * 6 + 5) w4 (by omega) hO
                go_wp2
                go_meet
                case rel => exact hO.set hBl (Nat.le_refl _) hB1 _ ⟨by omega, by omega⟩
            · go_wp2_with fail
              refine (below_any B a n c w0 w3 hO.d.b hB hO.d.k hS hn 2 (by decide) (by decide)).mono ?_
              rintro e w4 ⟨q, rfl, ⟨q0, q1⟩, d2⟩
              have hO := hO.drawn d2 hB1
              clear d2
              · have k0 := hf (x * 6 + 1) w4 hO
                obtain ⟨u0, k1⟩ := hc (x * 6 + 1) w4 (by omega) hO
                go_wp2
                go_meet
                case rel => exact hO.set hBl (Nat.le_refl _) hB1 _ ⟨by omega, by omega⟩
        case rest =>
          have hO := hcut
          clear hcut Hb
          obtain ⟨wB, rfl⟩ : ∃ V, V = wc := ⟨_, rfl⟩
          go_wp2_with fail
          refine (once_any B a n c w0 wB hO.d.b hB hO.d.k hS hn 200 (by decide) (by decide)).mono ?_
          rintro e w3 ⟨t, rfl, d2⟩
          have hO := hO.drawn d2 hB1
          clear d2
          cases t
          · go_wp2
            go_ret
            exact ⟨_, j, rfl, by omega, hO⟩
          · have hs3 : w.heap.size ≤ w3.heap.size := hO.d.o.size
            have hD := hO.d.bel (bel_alloc (Bel.refl _) (.cells #[] 33))
            have O5 : LbR w.heap.size w0 w B a n c (.slice (some ⟨w3.heap.size, 0, none⟩) 0 0) 0 (w3.alloc (.cells #[] 33)) :=
              ⟨⟨[], World.ownsRow_lit w3 #[] 0 hs3 (Nat.zero_le _) rfl, fun u hu => by cases hu⟩, hD⟩
            clear hO
            go_wp2_with fail
            refine (below_any B a n c w0 _ O5.d.b hB O5.d.k hS hn 3 (by decide) (by decide)).mono ?_
            rintro e w4 ⟨q, rfl, ⟨q0, q1⟩, d2⟩
            have O6 : Hid (LbR w.heap.size w0 w B a n c (.slice (some ⟨w3.heap.size, 0, none⟩) 0 0) 0 w4) := O5.drawn d2 hB1
            clear d2 O5
            obtain ⟨q, rfl⟩ : ∃ m : Nat, q = m := ⟨q.toNat, by omega⟩
            clear hD
            go_wp2
            go_loopw [3, 6] (fun r ii wr => ∃ (k2 j2 : Nat), j2 + k2 ≤ 501 ∧ ii = .int .i64 k2 ∧ LbR w.heap.size w0 w B a n c r j2 wr) (fun _ ii _ => (intOf ii).toNat)
            case atStart => exact ⟨q + 499, 0, by omega, by go_num, O6.out⟩
            case round =>
              obtain ⟨k2, j2, hk2, rfl, hO⟩ := hrel
              clear O6
              obtain ⟨va2, vc2, rfl⟩ := hO.form
              by_cases hlt : 0 < k2
              · have hlt' : (0 : Int) < (k2 : Int) := by omega
                obtain ⟨w6, rfl⟩ : ∃ V, V = wr := ⟨_, rfl⟩
                have HN : Hid (∀ (jj : Nat) (u : Value), [Value.int .i64 k2, .int .i64 0, .int .i64 0, .int .i64 1, .int .i64 1, .int .i64 0][jj]? = some u → (w6.alloc (.cells #[.int .i64 k2, .int .i64 0, .int .i64 0, .int .i64 1, .int .i64 1, .int .i64 0] 33)).cell? ((⟨w6.heap.size, 0, none⟩ : Addr).add jj) = some u) :=
                  World.news_of_block (cs := #[.int .i64 k2, .int .i64 0, .int .i64 0, .int .i64 1, .int .i64 1, .int .i64 0]) (t := 33) (fr := (0, 0)) (heap_alloc_new w6 _)
                have hs6 : w.heap.size ≤ w6.heap.size := hO.d.o.size
                have iL : IntL [Value.int .i64 k2, .int .i64 0, .int .i64 0, .int .i64 1, .int .i64 1, .int .i64 0] := intL6 ⟨by omega, by omega⟩ ⟨by omega, by omega⟩ ⟨by omega, by omega⟩ ⟨by omega, by omega⟩ ⟨by omega, by omega⟩ ⟨by omega, by omega⟩
                obtain ⟨xs, hr, hx⟩ := (hO.bel (.cells #[.int .i64 k2, .int .i64 0, .int .i64 0, .int .i64 1, .int .i64 1, .int .i64 0] 33)).row
                have HD : Hid (Drawn w0 w B a n c (w6.alloc (.cells #[.int .i64 k2, .int .i64 0, .int .i64 0, .int .i64 1, .int .i64 1, .int .i64 0] 33))) := (hO.bel (.cells #[.int .i64 k2, .int .i64 0, .int .i64 0, .int .i64 1, .int .i64 1, .int .i64 0] 33)).d
                have HX : Hid (IntL (xs ++ [Value.int .i64 k2, .int .i64 0, .int .i64 0, .int .i64 1, .int .i64 1, .int .i64 0])) := hx.add iL
                have HO : Hid ((w6.alloc (.cells #[.int .i64 k2, .int .i64 0, .int .i64 0, .int .i64 1, .int .i64 1, .int .i64 0] 33)).ownsRow w.heap.size 33 6 (.slice va2 j2 vc2) j2 xs) := hr
                clear hr hx iL hO
                go_wp2_with (first
                  | (at_builtin; refine wpList_append_own _ rfl _ _ 24 rfl w.heap.size 33 i0 (.agg #[.int .i64 0, .int .i64 0, .int .i64 0, .int .i64 0, .int .i64 0, .int .i64 0]) 6 48 Try.underlying24 hi hz0 hz1 hz2 rfl (by decide) _ _ _ rfl HO.out ⟨w6.heap.size, 0, none⟩ 1 1 [.int .i64 k2, .int .i64 0, .int .i64 0, .int .i64 1, .int .i64 1, .int .i64 0] rfl rfl HN.out (by simp [Value.oneCell']) (by unfold maxLen; omega) (by omega) (by simp; omega) ?_)
                  | go_in)
                intro v' w7 hown hgrow _
                have HD4 : Hid (Drawn w0 w B a n c w7) := HD.out.grown hgrow hBl hB1 (fun q e => (HO.out.lt q e).1)
                have HO4 : Hid (LbR w.heap.size w0 w B a n c v' (j2 + 1) w7) := ⟨⟨_, hown, HX.out⟩, HD4.out⟩
                obtain ⟨va', vc', rfl⟩ := HO4.out.form
                clear hown hgrow HO HD HN HX HD4
                go_wp2
                go_roundw
                case rel => exact ⟨k2 - 1, j2 + 1, by omega, by go_num, HO4.out⟩
                case measure => simp [intOf]; omega
              · obtain rfl : k2 = 0 := by omega
                go_wp2
                go_ret
                exact ⟨_, j2, rfl, by omega, hO⟩

set_option maxRecDepth 100000 in
set_option maxHeartbeats 4000000 in
theorem drawIds_any (B : Nat) (a : Option Addr) (n c : Nat) (w0 w : World) (hb : Bel w0 w) (hB : w0.heap.size ≤ B) (hC : Cur w B a n c) (hS : Bts w0 a n) (hn : n ≤ 1048576) :
    Calls Try.prog 28 #[.pointer (some ⟨B, 0, none⟩)] w fun e w' => ∃ (v : Value) (m : Nat) (xs : List Value), e = .returned v ∧ m ≤ 14 ∧ w'.ownsRow w.heap.size 2 1 v m xs ∧ IntL xs ∧ Drawn w0 w B a n c w' := by
  have hB1 : B < w.heap.size := hC.lt
  have hBl : w0.heap.size ≤ w.heap.size := hb.out.size
  have D1 : Drawn w0 w B a n c (w.alloc (.cells #[] 2)) := Drawn.bel ⟨hb, OnlyB.refl _ _, hC⟩ (bel_alloc (Bel.refl _) _)
  have O1 : (w.alloc (.cells #[] 2)).ownsRow w.heap.size 2 1 (.slice (some ⟨w.heap.size, 0, none⟩) 0 0) 0 [] := World.ownsRow_lit w #[] 0 (Nat.le_refl _) (Nat.zero_le _) rfl
  obtain ⟨i0, hi, hz0, hz1, hz2⟩ := info_parts infoI
  go_enter Try.func28, Try.ntmps28
  go_wp2
  go_loopw [3, 4] (fun r i wr => ∃ (k j : Nat) (xs : List Value), 8 ≤ k ∧ k ≤ 22 ∧ j + 8 ≤ k ∧ i = .int .i64 k ∧ wr.ownsRow w.heap.size 2 1 r j xs ∧ IntL xs ∧ Drawn w0 w B a n c wr) (fun _ i _ => 22 - (intOf i).toNat)
  case atStart => exact ⟨8, 0, [], by omega, by omega, by omega, rfl, O1, (fun u hu => by cases hu), D1⟩
  case round =>
    obtain ⟨k, j, xs, hk0, hk, hj, rfl, hO, hX, hD⟩ := hrel
    clear D1 O1
    obtain ⟨va, vc, rfl⟩ := own_shape hO
    by_cases hlt : k < 22
    · have hlt' : (k : Int) < 22 := by omega
      go_wp2_with fail
      refine (once_any B a n c w0 wr hD.b hB hD.k hS hn 3 (by decide) (by decide)).mono ?_
      rintro e w3 ⟨t, rfl, d3⟩
      have hO := own_drawn hO d3 hB1
      have hD := hD.then d3
      have hs3 : w.heap.size ≤ w3.heap.size := hD.o.size
      cases t
      · have HX : Hid (IntL xs) := hX
        have HO : Hid (w3.ownsRow w.heap.size 2 1 (.slice va j vc) j xs) := hO
        have HD : Hid (Drawn w0 w B a n c w3) := hD
        clear d3 hO hX hD
        go_wp2
        go_roundw
        case rel => exact ⟨k + 1, j, xs, by omega, by omega, by omega, by go_num, HO.out, HX.out, HD.out⟩
        case measure => simp [intOf]; omega
      · have HO : Hid ((w3.alloc (.cells #[.int .i64 k] 2)).ownsRow w.heap.size 2 1 (.slice va j vc) j xs) := hO.alloc (.cells #[.int .i64 k] 2)
        have HD : Hid (Drawn w0 w B a n c (w3.alloc (.cells #[.int .i64 k] 2))) := hD.bel (bel_alloc (Bel.refl w3) (.cells #[.int .i64 k] 2))
        have HN : Hid (∀ (jj : Nat) (u : Value), [Value.int .i64 k][jj]? = some u → (w3.alloc (.cells #[.int .i64 k] 2)).cell? ((⟨w3.heap.size, 0, none⟩ : Addr).add jj) = some u) := World.news_of_block (cs := #[.int .i64 k]) (t := 2) (fr := (0, 0)) (heap_alloc_new w3 _)
        have HX : Hid (IntL (xs ++ [Value.int .i64 k])) := hX.add (fun u hu => by simp at hu; subst hu; exact ⟨_, rfl, by omega, by omega⟩)
        clear d3 hO hD hX
        go_wp2_with (first
          | (at_builtin; refine wpList_append_own _ rfl _ _ 25 rfl w.heap.size 2 i0 (.int .i64 0) 1 8 Try.underlying25 hi hz0 hz1 hz2 rfl (by decide) _ _ _ rfl HO.out ⟨w3.heap.size, 0, none⟩ 1 1 [.int .i64 k] rfl rfl HN.out (by simp [Value.oneCell']) (by unfold maxLen; omega) (by omega) (by simp; omega) ?_)
          | go_in)
        intro v' w4 hown hgrow _
        have HD4 : Hid (Drawn w0 w B a n c w4) := HD.out.grown hgrow hBl hB1 (fun q e => (HO.out.lt q e).1)
        have HO4 : Hid (w4.ownsRow w.heap.size 2 1 v' (j + 1) (xs ++ [.int .i64 k])) := hown
        obtain ⟨va', vc', rfl⟩ : ∃ va vc, v' = .slice va (j + 1) vc := by
          rcases hown.2 with ⟨rfl, h⟩ | ⟨g, cap, cur, rfl, _⟩
          · omega
          · exact ⟨_, _, rfl⟩
        clear hown hgrow HO HD HN
        go_wp2
        go_roundw
        case rel => exact ⟨k + 1, j + 1, _, by omega, by omega, by omega, by go_num, HO4.out, HX.out, HD4.out⟩
        case measure => simp [intOf]; omega
    · obtain rfl : k = 22 := by omega
      have HX : Hid (IntL xs) := hX
      have HO : Hid (wr.ownsRow w.heap.size 2 1 (.slice va j vc) j xs) := hO
      have HD : Hid (Drawn w0 w B a n c wr) := hD
      clear hO hX hD
      go_wp2
      go_ret
      exact ⟨_, j, xs, rfl, by omega, HO.out, HX.out, HD.out⟩
end Go.Proofs.Ytpbpnkklnbmkeaa

namespace Go.Proofs.Ytpbpnkklnbmkeaa
open Go.RowKit Go.Maps

theorem own_intL {w : World} {base m : Nat} {v : Value} {xs : List Value} (h : w.ownsRow base 2 1 v m xs) (hx : IntL xs) :
    ∃ (a : Option Addr) (c : Nat) (l : List Int) (bs : List Nat), v = .slice a m c ∧ m ≤ c ∧ l.length = m ∧ Ints w a l bs := by
  rcases h.2 with ⟨rfl, rfl⟩ | ⟨g, cap, cur, rfl, hb, hg, hc, _⟩
  · exact ⟨none, 0, [], [], rfl, Nat.le_refl _, rfl, .inl ⟨rfl, rfl⟩⟩
  · have key : ∀ j, j < m → w.cell? ⟨g, j, none⟩ = some (.int .i64 (intOf (xs.getD j (.int .i64 0)))) ∧ In64 (intOf (xs.getD j (.int .i64 0))) := fun j hj => by
      have hl : j < xs.length := by rw [h.1]; omega
      obtain ⟨z, e, iz⟩ := hx xs[j] (List.getElem_mem hl)
      have e2 : xs.getD j (.int .i64 0) = .int .i64 z := by simp [List.getD, hl, e]
      rw [h.cellAt j (by omega), List.getElem?_eq_getElem hl, e2, e]
      exact ⟨rfl, iz⟩
    refine ⟨some ⟨g, 0, none⟩, cap, (List.range m).map fun i => intOf (xs.getD i (.int .i64 0)), _, rfl, hc, by simp, .inr ⟨g, 0, fun _ => [], rfl, (h.lt g rfl).2, rfl, fun i hi => ?_⟩⟩
    simp only [List.length_map, List.length_range] at hi
    simp only [List.getElem_map, List.getElem_range, Nat.zero_add, Nat.mul_one]
    exact ⟨rfl, (key i hi).2, (key i hi).1⟩
end Go.Proofs.Ytpbpnkklnbmkeaa
