/-
  The law's own small functions: in, has, square: contracts; what the numbers in a box are: mathematics.
  What the numbers in a box and the nearest ones are: plain mathematics.
  What the law asks of the numbers in a box and of the nearest ones, in one place each.
-/
import Derived.Test.YtkinpfnelmdmlaaDoorInbL
import Derived.Test.YtkinpfnelmdmlaaDoorNstL
import Derived.Test.YtkinpfnelmdmlaaDoorXA
namespace Go.Proofs.YtkinpfnelmdmlaaDoor
open Go.RowKit

theorem sq_nn (n : Int) : 0 ≤ n * n := by
  by_cases h : 0 ≤ n
  · exact Int.mul_nonneg h h
  · rw [← Int.neg_mul_neg]; exact Int.mul_nonneg (by omega) (by omega)
set_option maxHeartbeats 1000000 in
theorem lawIn_any (q : BoxD) (x y : Int) (w : World) :
    Calls Tryd.prog 9 #[.agg #[.int .i64 q.a, .int .i64 q.b, .int .i64 q.c, .int .i64 q.d], .agg #[.int .i64 x, .int .i64 y]] w fun e w' => e = .returned (.bool (ptB q x y)) ∧ Bel w w' := by
  have hB : Bel w ((w.alloc (.cells #[.int .i64 q.a, .int .i64 q.b, .int .i64 q.c, .int .i64 q.d] 28)).alloc (.cells #[.int .i64 x, .int .i64 y] 26)) := bel_alloc (bel_alloc (Bel.refl _) _) _
  obtain ⟨R, HR⟩ : ∃ R, Hid (ptB q x y = R) := ⟨_, (rfl : ptB q x y = _)⟩
  rw [HR.out]
  by_cases h1 : q.a ≤ x
  · by_cases h2 : x ≤ q.c
    · by_cases h3 : q.b ≤ y
      · by_cases h4 : y ≤ q.d
        · have HF : Hid (R = true) := (by rw [← HR.out]; simp [ptB, h1, h2, h3, h4] : R = true)
          go_enter Tryd.func9, Tryd.ntmps9
          go_wp2
          go_ret
          exact ⟨by rw [HF.out]; rfl, hB⟩
        · have HF : Hid (R = false) := (by rw [← HR.out]; simp [ptB, h4] : R = false)
          go_enter Tryd.func9, Tryd.ntmps9
          go_wp2
          go_ret
          exact ⟨by rw [HF.out]; rfl, hB⟩
      · have HF : Hid (R = false) := (by rw [← HR.out]; simp [ptB, h3] : R = false)
        go_enter Tryd.func9, Tryd.ntmps9
        go_wp2
        go_ret
        exact ⟨by rw [HF.out]; rfl, hB⟩
    · have HF : Hid (R = false) := (by rw [← HR.out]; simp [ptB, h2] : R = false)
      go_enter Tryd.func9, Tryd.ntmps9
      go_wp2
      go_ret
      exact ⟨by rw [HF.out]; rfl, hB⟩
  · have HF : Hid (R = false) := (by rw [← HR.out]; simp [ptB, h1] : R = false)
    go_enter Tryd.func9, Tryd.ntmps9
    go_wp2
    go_ret
    exact ⟨by rw [HF.out]; rfl, hB⟩
theorem int_k {w : World} {b off : Nat} {l : List Int} {bs : List Nat} (h : Ints w (some ⟨b, off, none⟩) l bs) {k : Nat} (hk : k < l.length) : b < w.heap.size ∧ w.cell? ⟨b, off + k, none⟩ = some (.int .i64 l[k]) := by
  obtain ⟨b', off', f, e, hb, hx⟩ := h.out hk
  injection e with e
  injection e with e1 e2
  subst e1 e2
  have := (hx k hk).2.2
  rw [Nat.mul_one] at this
  exact ⟨hb, this⟩
set_option maxRecDepth 100000 in
set_option maxHeartbeats 2000000 in
theorem lawHas_any (a : Option Addr) (n c : Nat) (l : List Int) (bs : List Nat) (x : Int) (w : World) (hP : Ints w a l bs) (hn : l.length = n) (hm : n ≤ 1048576) :
    Calls Tryd.prog 10 #[.slice a n c, .int .i64 x] w fun e w' => e = .returned (.bool (decide (x ∈ l))) ∧ w' = w := by
  have Hn : Hid (l.length = n) := hn
  obtain ⟨R, HR⟩ : ∃ R, Hid (decide (x ∈ l) = R) := ⟨_, (rfl : decide (x ∈ l) = _)⟩
  rw [HR.out]
  clear hn
  go_enter Tryd.func10, Tryd.ntmps10
  go_wp2
  go_loopw [5] (fun ix wr => ∃ i : Nat, i ≤ n ∧ ix = .int .i64 i ∧ Hid (∀ j (h : j < l.length), j < i → ¬ l[j] = x) ∧ wr = w) (fun ix _ => n - (intOf ix).toNat)
  case atStart => exact ⟨0, Nat.zero_le _, rfl, fun j h hj => absurd hj (Nat.not_lt_zero _), rfl⟩
  case round =>
    obtain ⟨i, hi, rfl, HA, hw⟩ := hrel
    subst hw
    by_cases hlt : i < n
    · have hil : i < l.length := by rw [Hn.out]; exact hlt
      have hlt' : (i : Int) < (n : Int) := by omega
      obtain ⟨rb, off, f, rfl, hb, _⟩ := hP.out hil
      have k0 := (int_k hP hil).2
      obtain ⟨y, Hy⟩ : ∃ q, Hid (l[i] = q) := ⟨_, (rfl : l[i] = _)⟩
      rw [Hy.out] at k0
      by_cases hxy : y = x
      · have hxb : (y == x) = true := by simp [hxy]
        have HF : Hid (R = true) := (by rw [← HR.out, decide_eq_true_eq]; rw [← hxy, ← Hy.out]; exact List.getElem_mem hil : R = true)
        clear hxy
        go_wp2
        go_ret
        exact ⟨by rw [HF.out]; rfl, rfl⟩
      · have hxb : (y == x) = false := by simp [hxy]
        have HA' : Hid (∀ j (h : j < l.length), j < i + 1 → ¬ l[j] = x) := fun j h hj => by
          by_cases e : j = i
          · subst e; rw [Hy.out]; exact hxy
          · exact HA.out j h (by omega)
        clear hxy
        go_wp2
        go_roundw
        case rel => exact ⟨i + 1, by omega, by go_num, HA'.out, (by first | rfl | trivial)⟩
        case measure => simp [intOf]; omega
    · have e : i = n := by omega
      subst e
      have HF : Hid (R = false) := (by
        rw [← HR.out, decide_eq_false_iff_not]
        intro hx
        obtain ⟨j, hj, e⟩ := List.mem_iff_getElem.1 hx
        exact HA.out j hj (by rw [← Hn.out]; exact hj) e : R = false)
      go_wp2
      go_ret
      exact ⟨by rw [HF.out]; rfl, rfl⟩
set_option maxHeartbeats 1000000 in
theorem lawSquare_any (x y px py : Int) (w : World) (hp : POk x y) (hq : POk px py) :
    Calls Tryd.prog 15 #[.agg #[.int .i64 x, .int .i64 y], .agg #[.int .i64 px, .int .i64 py]] w fun e w' => e = .returned (.int .i64 (dsq px py x y)) ∧ Bel w w' := by
  have hB : Bel w ((w.alloc (.cells #[.int .i64 x, .int .i64 y] 26)).alloc (.cells #[.int .i64 px, .int .i64 py] 26)) := bel_alloc (bel_alloc (Bel.refl _) _) _
  have hd := dsq_bd hq hp
  have HD : Hid (dsq px py x y = (x - px) * (x - px) + (y - py) * (y - py)) := (rfl : dsq px py x y = (x - px) * (x - px) + (y - py) * (y - py))
  have h1 : 0 ≤ (x - px) * (x - px) := sq_nn _
  have h2 : 0 ≤ (y - py) * (y - py) := sq_nn _
  obtain ⟨A, hA⟩ : ∃ A, (x - px) * (x - px) = A := ⟨_, rfl⟩
  obtain ⟨C, hC⟩ : ∃ C, (y - py) * (y - py) = C := ⟨_, rfl⟩
  rw [HD.out, hA, hC] at hd
  rw [hA] at h1
  rw [hC] at h2
  obtain ⟨a0, a1, a2, a3⟩ := hp
  obtain ⟨b0, b1, b2, b3⟩ := hq
  obtain ⟨hd0, hd1⟩ := hd
  have HF : Hid (dsq px py x y = A + C) := (by rw [HD.out, hA, hC] : dsq px py x y = A + C)
  rw [HF.out]
  go_enter Tryd.func15, Tryd.ntmps15
  go_wp2
  go_ret
  exact ⟨rfl, hB⟩
end Go.Proofs.YtkinpfnelmdmlaaDoor

namespace Go.Proofs.YtkinpfnelmdmlaaDoor
open Go.RowKit

variable {X Y : Nat → Int} {q : BoxD} {o : Nat → Nat} {n : Nat}
theorem inbF_filter (X Y : Nat → Int) (q : BoxD) (o : Nat → Nat) : ∀ k, inbF X Y q o k = ((List.range k).filter fun x => ptB q (X (o x)) (Y (o x))).map fun x => ((o x : Nat) : Int)
  | 0 => rfl
  | k + 1 => by
    rw [List.range_succ, List.filter_append, List.map_append, ← inbF_filter X Y q o k]
    cases h : ptB q (X (o k)) (Y (o k))
    · rw [inbF_no h]; simp [h]
    · rw [inbF_yes h]; simp [h]
theorem inb_mem {K : Nat → Int} (h : Bk K o 0 n) {i : Nat} (hi : i < n) : ((i : Int) ∈ inbF X Y q o n) ↔ ptB q (X i) (Y i) = true := by
  rw [inbF_filter]
  simp only [List.mem_map, List.mem_filter, List.mem_range]
  constructor
  · rintro ⟨x, ⟨_, h2⟩, h3⟩
    have e : o x = i := by omega
    rw [e] at h2
    exact h2
  · intro h2
    obtain ⟨x, hx, e⟩ := h.onto i hi
    exact ⟨x, ⟨hx, by rw [e]; exact h2⟩, by rw [e]⟩
theorem inb_elem {K : Nat → Int} (h : Bk K o 0 n) {t : Nat} (ht : t < (inbF X Y q o n).length) : ∃ i, i < n ∧ (inbF X Y q o n)[t] = (i : Int) := by
  have hm := List.getElem_mem ht
  generalize (inbF X Y q o n)[t] = y at hm ⊢
  rw [inbF_filter] at hm
  simp only [List.mem_map, List.mem_filter, List.mem_range] at hm
  obtain ⟨x, ⟨h1, _⟩, rfl⟩ := hm
  exact ⟨o x, (h.2 x (Nat.zero_le _) h1).2, rfl⟩
theorem inb_pair {K : Nat → Int} (h : Bk K o 0 n) : (inbF X Y q o n).Pairwise fun a b => ∃ i j : Nat, a = (i : Int) ∧ b = (j : Int) ∧ Ro K i j := by
  rw [inbF_filter, List.pairwise_map]
  refine List.Pairwise.imp_of_mem ?_ (List.Pairwise.filter _ (List.pairwise_lt_range (n := n)))
  intro a b ha hb hab
  have hb' := List.mem_range.1 (List.mem_filter.1 hb).1
  exact ⟨o a, o b, rfl, rfl, h.1 a b (Nat.zero_le _) hab hb'⟩
theorem inb_ord {K : Nat → Int} (h : Bk K o 0 n) {t i j : Nat} (ht : t + 1 < (inbF X Y q o n).length) (hi : (inbF X Y q o n)[t]'(by omega) = (i : Int)) (hj : (inbF X Y q o n)[t + 1] = (j : Int)) : K i ≤ K j := by
  obtain ⟨i', j', e1, e2, hr⟩ := List.pairwise_iff_getElem.1 (inb_pair h) t (t + 1) (by omega) ht (by omega)
  have a1 : i' = i := by omega
  have a2 : j' = j := by omega
  subst a1 a2
  unfold Ro at hr
  omega
/-- How many of the first k lie in the box. -/
def cntB (X Y : Nat → Int) (q : BoxD) (k : Nat) : Nat := ((List.range k).filter fun i => ptB q (X i) (Y i)).length
theorem cntB_zero (X Y : Nat → Int) (q : BoxD) : cntB X Y q 0 = 0 := rfl
theorem cntB_yes {k : Nat} (h : ptB q (X k) (Y k) = true) : cntB X Y q (k + 1) = cntB X Y q k + 1 := by unfold cntB; rw [List.range_succ, List.filter_append, List.length_append]; simp [h]
theorem cntB_no {k : Nat} (h : ptB q (X k) (Y k) = false) : cntB X Y q (k + 1) = cntB X Y q k := by unfold cntB; rw [List.range_succ, List.filter_append, List.length_append]; simp [h]
theorem cntB_le (X Y : Nat → Int) (q : BoxD) (k : Nat) : cntB X Y q k ≤ k := Nat.le_trans (List.length_filter_le _ _) (by simp)
theorem inb_len {K : Nat → Int} (h : Bk K o 0 n) : (inbF X Y q o n).length = cntB X Y q n := by
  have hn1 : (inbF X Y q o n).Nodup := (inb_pair h).imp fun ⟨i, j, e1, e2, hr⟩ e => by
    have : i = j := by omega
    subst this
    exact hr.irr
  have hn2 : (((List.range n).filter fun i => ptB q (X i) (Y i)).map fun i => ((i : Nat) : Int)).Nodup := by
    unfold List.Nodup
    rw [List.pairwise_map]
    exact (List.Pairwise.filter _ (List.pairwise_lt_range (n := n))).imp fun hab e => by omega
  have hp := (List.perm_ext_iff_of_nodup hn1 hn2).2 fun y => by
    constructor
    · intro hy
      obtain ⟨t, ht, rfl⟩ := List.mem_iff_getElem.1 hy
      obtain ⟨i, hi, e⟩ := inb_elem h ht
      rw [e] at hy ⊢
      exact List.mem_map.2 ⟨i, List.mem_filter.2 ⟨List.mem_range.2 hi, (inb_mem h hi).1 hy⟩, rfl⟩
    · intro hy
      obtain ⟨i, hi, rfl⟩ := List.mem_map.1 hy
      obtain ⟨h1, h2⟩ := List.mem_filter.1 hi
      exact (inb_mem h (List.mem_range.1 h1)).2 h2
  rw [hp.length_eq, List.length_map]
  rfl
theorem near_ord {K : Nat → Int} (h : Bk K o 0 n) {t : Nat} (ht : t + 1 < n) : K (o t) ≤ K (o (t + 1)) := by
  have hr := h.1 t (t + 1) (Nat.zero_le _) (by omega) ht
  unfold Ro at hr
  omega
theorem near_out {K : Nat → Int} (h : Bk K o 0 n) {m j t : Nat} (hj : j < n) (hout : ¬ ((j : Int) ∈ lsOX o m)) (ht : t < m) : K (o t) ≤ K j := by
  obtain ⟨x, hx, e⟩ := h.onto j hj
  have hxm : ¬ x < m := fun hh => hout (by
    unfold lsOX
    exact List.mem_map.2 ⟨x, List.mem_range.2 hh, by rw [e]⟩)
  have hr := h.1 t x (Nat.zero_le _) (by omega) hx
  rw [e] at hr
  unfold Ro at hr
  omega
end Go.Proofs.YtkinpfnelmdmlaaDoor

namespace Go.Proofs.YtkinpfnelmdmlaaDoor
open Go.RowKit

theorem InbL.facts {m : Nat} {X Y : Nat → Int} {q : BoxD} {L : List Int} (h : InbL m X Y q L) (hr : rowB m X Y = true) :
    (∀ i, i < m → (decide ((i : Int) ∈ L) = ptB q (X i) (Y i))) ∧ (∀ t (h : t < L.length), ∃ i : Nat, i < m ∧ L[t] = (i : Int)) ∧ (∀ (t i j : Nat) (ht : t + 1 < L.length), L[t]'(by omega) = (i : Int) → L[t + 1] = (j : Int) → cod (X i) (Y i) ≤ cod (X j) (Y j)) ∧ L.length = cntB X Y q m := by
  rcases h with ⟨h1, _⟩ | ⟨_, o, h2, rfl⟩
  · rw [hr] at h1; cases h1
  · refine ⟨fun i hi => ?_, fun t ht => inb_elem h2 ht, fun t i j ht hi hj => inb_ord h2 ht hi hj, inb_len h2⟩
    have := inb_mem (X := X) (Y := Y) (q := q) h2 hi
    cases hp : ptB q (X i) (Y i)
    · rw [decide_eq_false_iff_not, this, hp]; exact Bool.false_ne_true
    · rw [decide_eq_true_eq, this, hp]
theorem InbL.none {m : Nat} {X Y : Nat → Int} {q : BoxD} {L : List Int} (h : InbL m X Y q L) (hr : rowB m X Y = false) : L = [] := by
  rcases h with ⟨_, h⟩ | ⟨h1, _⟩
  · exact h
  · rw [hr] at h1; cases h1
theorem SrtL.lone {L : List Int} (h : SrtL 1 (fun _ => 0) (fun _ => 0) L) : L.length = 1 := by
  rcases h with ⟨h1, _⟩ | ⟨_, o, _, rfl⟩
  · exact absurd h1 (by decide)
  · exact lsO_len o 1
theorem rowB_okA {m : Nat} {X Y : Nat → Int} (h : m ≤ 2000) : rowB m X Y = okA m X Y := by
  unfold rowB okA
  simp only [h, decide_true, Bool.true_and]
theorem NstL.facts {n : Nat} {X Y : Nat → Int} {px py k : Int} {L : List Int} (h : NstL n X Y px py k L) (h0 : 0 < L.length) :
    POk px py ∧ (∀ i, i < n → POk (X i) (Y i)) ∧ (∀ t (h : t < L.length), ∃ i : Nat, i < n ∧ L[t] = (i : Int)) ∧ (∀ (t i j : Nat) (ht : t + 1 < L.length), L[t]'(by omega) = (i : Int) → L[t + 1] = (j : Int) → dsq px py (X i) (Y i) ≤ dsq px py (X j) (Y j)) ∧ (∀ (j t i : Nat), j < n → decide ((j : Int) ∈ L) = false → (ht : t < L.length) → L[t] = (i : Int) → dsq px py (X i) (Y i) ≤ dsq px py (X j) (Y j)) := by
  rcases h with ⟨_, rfl⟩ | ⟨⟨hr, hp, _⟩, o, h2, rfl⟩
  · exact absurd h0 (by simp)
  · refine ⟨pOk_iff.1 hp, (rowB_out hr).2, fun t ht => ?_, fun t i j ht hi hj => ?_, fun j t i hj hm ht hi => ?_⟩
    · rw [lsO_lenX] at ht
      exact ⟨o t, (h2.2 t (Nat.zero_le _) (by omega)).2, lsO_atX _ _⟩
    · rw [lsO_atX] at hi hj
      rw [lsO_lenX] at ht
      have a1 : o t = i := by omega
      have a2 : o (t + 1) = j := by omega
      have := near_ord h2 (t := t) (by omega)
      simp only [a1, a2] at this
      exact this
    · rw [lsO_atX] at hi
      rw [lsO_lenX] at ht
      have a1 : o t = i := by omega
      have := near_out h2 hj (by simpa using hm) ht
      simp only [a1] at this
      exact this
theorem Pts.some {w : World} {a : Option Addr} {n : Nat} {X Y : Nat → Int} (h : Pts w a n X Y) {i : Nat} (hi : i < n) : ∃ b off, a = Option.some ⟨b, off, none⟩ ∧ b < w.heap.size ∧ ∀ i, i < n → w.cell? ⟨b, off + i * 2, none⟩ = Option.some (.int .i64 (X i)) ∧ w.cell? ⟨b, off + i * 2 + 1, none⟩ = Option.some (.int .i64 (Y i)) := by
  rcases h with h | h
  · omega
  · exact h
end Go.Proofs.YtkinpfnelmdmlaaDoor
