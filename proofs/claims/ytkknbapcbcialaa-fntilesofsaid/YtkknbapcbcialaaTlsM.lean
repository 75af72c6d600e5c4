/-
  Which tiles a box has: plain mathematics of the tiles' list.
-/
import Derived.Test.YtkknbapcbcialaaTilL
namespace Go.Proofs.Ytkknbapcbcialaa

theorem ax_le {z x hi : Int} (hz : zmB z = true) : tbA z x ≤ hi ↔ x ≤ tlE z hi := by
  have s0 := (zNS hz).2.1
  unfold tbA tlE
  rw [Int.le_ediv_iff_mul_le (by omega)]
  omega
theorem ax_ge {z x lo : Int} (hz : zmB z = true) : lo ≤ tbA z x + zS z ↔ tlW z lo ≤ x := by
  have s0 := (zNS hz).2.1
  unfold tbA tlW
  have h : (lo + 16777215) / (zS z : Int) < x + 1 ↔ lo + 16777215 < (x + 1) * zS z := Int.ediv_lt_iff_lt_mul (by omega)
  rw [Int.add_mul, Int.one_mul] at h
  omega
def hasT (L : List TileD) (z x y : Int) : Bool := L.any fun t => decide (t.z = z) && (decide (t.x = x) && decide (t.y = y))
theorem hasT_iff {L : List TileD} {z x y : Int} : hasT L z x y = true ↔ (⟨z, x, y⟩ : TileD) ∈ L := by
  unfold hasT
  rw [List.any_eq_true]
  constructor
  · rintro ⟨t, ht, h⟩
    simp only [Bool.and_eq_true, decide_eq_true_eq] at h
    obtain ⟨rfl, rfl, rfl⟩ := h
    exact ht
  · intro h
    exact ⟨_, h, by simp⟩
theorem tlT_mem {z w s : Int} {W H : Nat} {t : TileD} (hW : 0 < W) : t ∈ tlT z w s W (H * W) ↔ t.z = z ∧ w ≤ t.x ∧ t.x < w + W ∧ s ≤ t.y ∧ t.y < s + H := by
  unfold tlT
  rw [List.mem_map]
  constructor
  · rintro ⟨k, hk, rfl⟩
    rw [List.mem_range] at hk
    have h1 : k % W < W := Nat.mod_lt _ hW
    have h2 : k / W < H := Nat.div_lt_of_lt_mul (by rw [Nat.mul_comm]; exact hk)
    show z = z ∧ w ≤ w + ((k % W : Nat) : Int) ∧ w + ((k % W : Nat) : Int) < w + W ∧ s ≤ s + ((k / W : Nat) : Int) ∧ s + ((k / W : Nat) : Int) < s + H
    generalize k % W = p at h1 ⊢
    generalize k / W = r at h2 ⊢
    omega
  · rintro ⟨h0, h1, h2, h3, h4⟩
    obtain ⟨i, hi⟩ : ∃ i : Nat, t.x = w + i := ⟨(t.x - w).toNat, by omega⟩
    obtain ⟨j, hj⟩ : ∃ j : Nat, t.y = s + j := ⟨(t.y - s).toNat, by omega⟩
    have hi' : i < W := by omega
    have hj' : j < H := by omega
    refine ⟨W * j + i, ?_, ?_⟩
    · rw [List.mem_range]
      calc W * j + i < W * j + W := by omega
        _ = W * (j + 1) := by rw [Nat.mul_succ]
        _ ≤ W * H := Nat.mul_le_mul_left _ hj'
        _ = H * W := Nat.mul_comm _ _
    · unfold tlF
      rw [Nat.mul_add_mod, Nat.mod_eq_of_lt hi', Nat.mul_add_div hW, Nat.div_eq_of_lt hi', Nat.add_zero, ← hi, ← hj, ← h0]
/-- What there is to know of a box that has tiles. -/
structure TlHas (q : BoxD) (z : Int) : Prop where
  bok : bokB q = true
  zm : zmB z = true
  mem : ∀ t : TileD, t ∈ tlQ q z ↔ t.z = z ∧ tlW z q.a ≤ t.x ∧ t.x ≤ tlE z q.c ∧ tlW z q.b ≤ t.y ∧ t.y ≤ tlE z q.d
theorem tl_has {q : BoxD} {z : Int} (h : tlQ q z ≠ []) : TlHas q z := by
  cases hb : bokB q
  · exact absurd (tlQ_bok hb) h
  cases hz : zmB z
  · exact absurd (tlQ_zm hz) h
  by_cases hm : 400 < tlN z q.a q.c * tlN z q.b q.d
  · exact absurd (tlQ_many hm) h
  obtain ⟨b0, b1, b2, b3, b4, b5⟩ := bok_out hb
  obtain ⟨x0, x1, _⟩ := tlN_int hz b0 b1 b2
  obtain ⟨y0, y1, _⟩ := tlN_int hz b3 b4 b5
  refine ⟨hb, hz, fun t => ?_⟩
  rw [tlQ_yes hb hz (by omega), tlT_mem x1]
  omega
/-- A tile that has a place in the list, and one beside it. -/
structure TlAt (q : BoxD) (z x y : Int) : Prop where
  ok : tilB z x y = true
  h1 : tbA z x ≤ q.c
  h2 : q.a ≤ tbA z x + zS z
  h3 : tbA z y ≤ q.d
  h4 : q.b ≤ tbA z y + zS z
theorem tl_at {q : BoxD} {z x y : Int} (h : TlHas q z) (hm : (⟨z, x, y⟩ : TileD) ∈ tlQ q z) : TlAt q z x y := by
  obtain ⟨_, m1, m2, m3, m4⟩ := (h.mem _).1 hm
  obtain ⟨b0, b1, b2, b3, b4, b5⟩ := bok_out h.bok
  have bx := tl_bd h.zm b0 b1 b2
  have by' := tl_bd h.zm b3 b4 b5
  refine ⟨?_, (ax_le h.zm).2 m2, (ax_ge h.zm).2 m1, (ax_le h.zm).2 m4, (ax_ge h.zm).2 m3⟩
  simp only [tilB, h.zm, Bool.true_and, Bool.and_eq_true, decide_eq_true_eq]
  simp only at m1 m2 m3 m4
  omega
def meetT (q r : BoxD) : Bool := decide (r.a ≤ q.c) && (decide (q.a ≤ r.c) && (decide (r.b ≤ q.d) && decide (q.b ≤ r.d)))
theorem tl_meet {q : BoxD} {z x y : Int} (h : TlHas q z) (hok : tilB z x y = true) : meetT q (tbx z x y) = hasT (tlQ q z) z x y := by
  rw [Bool.eq_iff_iff, hasT_iff, h.mem]
  rw [tbx_yes hok]
  simp only [meetT, Bool.and_eq_true, decide_eq_true_eq, ax_le h.zm, ax_ge h.zm, true_and]
  constructor
  · rintro ⟨h1, h2, h3, h4⟩; exact ⟨h2, h1, h4, h3⟩
  · rintro ⟨h2, h1, h4, h3⟩; exact ⟨h1, h2, h3, h4⟩
theorem tl_mem_z {q : BoxD} {z : Int} {t : TileD} (h : TlHas q z) (hm : t ∈ tlQ q z) : t.z = z := ((h.mem t).1 hm).1
theorem tlQ_one : (tlQ ⟨0, 0, 0, 0⟩ 0).length = 1 := by decide
end Go.Proofs.Ytkknbapcbcialaa
