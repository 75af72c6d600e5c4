/-
  Rows of rows of numbers that are handed in: read, counted, copied: contracts.
-/
import Derived.Test.YtiagdabikbjbiaaRowsI
import Derived.Test.YtiagdabikbjbiaaLblO
namespace Go.Proofs.Ytiagdabikbjbiaa
open Go.ChangeShapes Go.WideShapes Go.ChangeAt Go.RowKit Go.Deep Go.Joins Go.Maps

/-- .. with room. -/
def IcE : Elem (List Int) := fun w b o d bs => ∃ a c, d.length ≤ maxLen ∧ d.length ≤ c ∧ w.cell? ⟨b, o, none⟩ = some (.slice a d.length c) ∧ Ints w a d bs
theorem icE : Stays 1 IcE := ⟨fun ⟨a, c, hl, hc', h0, h2⟩ hc hA => ⟨a, c, hl, hc', same_cell hc 0 (by decide) h0, h2.alike intE hA⟩, fun ⟨_, _, _, _, _, h⟩ => Sl.lt intE h⟩
abbrev IcL := Sl 1 IcE
theorem IcL.rows {w : World} {a : Option Addr} {l : List (List Int)} {bs : List Nat} (h : IcL w a l bs) : IsL w a l bs := by
  rcases h with h | ⟨b, off, f, ha, hb, e, hx⟩
  · exact .inl h
  · exact .inr ⟨b, off, f, ha, hb, e, fun i hi => (hx i hi).elim fun a ⟨c, h1, _, h3, h4⟩ => ⟨a, c, h1, h3, h4⟩⟩
theorem infoIss : (Try.prog.info? 48).map (fun i => (i.zero, i.size, i.bytes)) = some (some (.slice none 0 0), 1, 24) := by kernel_rfl
set_option maxRecDepth 100000 in
set_option maxHeartbeats 1000000 in
theorem toInt64SS_any (a : Option Addr) (n c : Nat) (l : List (List Int)) (bs : List Nat) (w : World) (hT : IsL w a l bs) (hn : l.length = n) (hm : n ≤ 1048576) (hs : ∀ d ∈ l, d.length ≤ 1048576) :
    Calls Try.prog 9 #[.slice a n c] w fun e w' => ∃ B cs, e = .returned (.slice (some ⟨B, 0, none⟩) n n) ∧ IcL w' (some ⟨B, 0, none⟩) l cs ∧ Fresh w w' cs ∧ Bel w w' := by
  have Hn : Hid (l.length = n) := hn
  have Hs : Hid (∀ d ∈ l, d.length ≤ 1048576) := hs
  clear hn hs
  have hmk : ∀ w : World, (Instr.makeSlice 27 (.int .i64 n) (.int .i64 n)).run Try.prog w = .ok (.slice (some ⟨w.heap.size, 0, none⟩) n n) (w.alloc (.cells (madeCells #[.slice none 0 0] (n * 1)) 48)) := fun w => by
    obtain ⟨i0, hi, hz0, hz1, hz2⟩ := info_parts infoIss
    have := run_make (P := Try.prog) w 27 48 i0 (.slice none 0 0) Try.underlying27 hi hz0 .i64 .i64 n n (by omega) (by omega) (by rw [hz2]; omega) (by omega)
    rw [hz1] at this
    exact this
  go_enter Try.func9, Try.ntmps9
  go_wp2
  go_loopw [4] (fun i wr => ∃ k : Nat, k ≤ n ∧ i = .int .i64 k ∧ (∃ f, Fill 1 IcE wr w.heap.size n k l f) ∧ Bel w wr) (fun i _ => n - (intOf i).toNat)
  case atStart =>
    have h0 := Fill.start (E := IcE) w #[.slice none 0 0] 1 n 48 l
    rw [Nat.mul_one] at h0
    exact ⟨0, Nat.zero_le _, rfl, ⟨_, h0⟩, bel_alloc (Bel.refl _) _⟩
  case round =>
    obtain ⟨k, hk, rfl, ⟨g, hrow⟩, hbel⟩ := hrel
    by_cases hlt : k < n
    · have hkl : k < l.length := by rw [Hn.out]; exact hlt
      have hlt' : (k : Int) < (n : Int) := by omega
      obtain ⟨b, off, f, rfl, hb, hx⟩ := (hT.bel isE hbel).out hkl
      obtain ⟨a1, k1, m1, c1, t1⟩ := hx k hkl
      rw [Nat.mul_one] at c1
      have hsk := Hs.out l[k] (List.getElem_mem hkl)
      clear hx hT
      go_wp2_with fail
      refine (toInt64S_any a1 _ k1 l[k] (f k) _ t1 rfl hsk).mono ?_
      rintro e w1 ⟨D1, d1, rfl, u1, fr, hb1⟩
      have hr1 := hrow.bel icE hb1
      have hB1 : Bel w w1 := bel_step hbel hb1
      obtain ⟨v0, d50⟩ := hr1.there k (by omega)
      have f0 := hr1.free k
      clear c1 hb hbel
      go_wp2
      go_roundw
      case rel =>
        have S := setRow_in w.heap.size [.slice (some ⟨D1, 0, none⟩) l[k].length l[k].length] w1 (k * 1) (fun j hj => hr1.there _ (by simp at hj; omega))
        have HE1 : Ints (setRow w1 w.heap.size (k * 1) [.slice (some ⟨D1, 0, none⟩) l[k].length l[k].length]) (some ⟨D1, 0, none⟩) l[k] d1 := u1.alike intE (setRow_alike _ (fun x hx => (fr.new x hx).2) (fun hx => by have h1 := (fr.new _ hx).1; have h2 := hrow.lt; omega))
        have HP := hrow.put icE hb1 hlt Hn.out fr [.slice (some ⟨D1, 0, none⟩) l[k].length l[k].length] rfl ⟨_, _, m1, Nat.le_refl _, S 0 (by simp), HE1⟩
        have HB := setRow_bel hB1 (Nat.le_refl _) [.slice (some ⟨D1, 0, none⟩) l[k].length l[k].length] (k * 1)
        rw [Nat.mul_one] at HP HB
        exact ⟨k + 1, by omega, by go_num, ⟨_, HP⟩, HB⟩
      case measure => simp [intOf]; omega
    · have e : k = n := by omega
      subst e
      go_wp2
      go_ret
      exact ⟨_, _, rfl, hrow.sl Hn.out, hrow.fresh (Nat.le_refl _), hbel⟩

set_option maxRecDepth 100000 in
set_option maxHeartbeats 1000000 in
theorem szInt64SS_any (a : Option Addr) (n c : Nat) (l : List (List Int)) (bs : List Nat) (left : Int) (w : World) (hT : IsL w a l bs) (hn : l.length = n) (hm : n ≤ 9223372036854775807) (h0 : 0 ≤ left) (h1 : left ≤ 1048576) :
    Calls Try.prog 6 #[.slice a n c, .int .i64 left] w fun e w' => ∃ r : Int, e = .returned (.int .i64 r) ∧ r ≤ 1048576 ∧ Hid (0 ≤ r → n ≤ 1048576 ∧ ∀ d ∈ l, d.length ≤ 1048576) ∧ Bel w w' := by
  have Hn : Hid (l.length = n) := hn
  clear hn
  by_cases hf : (n : Int) ≤ left
  · go_enter Try.func6, Try.ntmps6
    go_wp2
    go_loopw [1, 5] (fun t i wr => ∃ (k : Nat) (r : Int), k ≤ n ∧ i = .int .i64 k ∧ t = .int .i64 r ∧ 0 ≤ r ∧ r ≤ 1048576 ∧ Hid (∀ j (h : j < l.length), j < k → l[j].length ≤ 1048576) ∧ Bel w wr) (fun _ i _ => n - (intOf i).toNat)
    case atStart => exact ⟨0, left - n, Nat.zero_le _, rfl, by go_num, by omega, by omega, fun j h hj => absurd hj (Nat.not_lt_zero _), Bel.refl _⟩
    case round =>
      obtain ⟨k, r, hk, rfl, rfl, r0, r1, HA, hbel⟩ := hrel
      by_cases hlt : k < n
      · have hkl : k < l.length := by rw [Hn.out]; exact hlt
        have hlt' : (k : Int) < (n : Int) := by omega
        obtain ⟨b, off, f, rfl, hb, hx⟩ := (hT.bel isE hbel).out hkl
        obtain ⟨a1, k1, m1, c1, t1⟩ := hx k hkl
        rw [Nat.mul_one] at c1
        unfold maxLen at m1
        clear hx
        go_wp2_with fail
        refine (szInt64S_any a1 _ k1 l[k] (f k) r _ t1 rfl m1 r0 r1).mono ?_
        rintro e w1 ⟨rfl, hb1⟩
        have hB1 := bel_step hbel hb1
        by_cases hq : (l[k].length : Int) ≤ r
        · have HZ : Hid (szR r l[k].length = r - l[k].length) := szR_pos hq
          have HA' : Hid (∀ j (h : j < l.length), j < k + 1 → l[j].length ≤ 1048576) := fun j h hj => by
            by_cases e : j = k
            · subst e; omega
            · exact HA.out j h (by omega)
          rw [HZ.out]
          have h0 : ¬ r - (l[k].length : Int) < 0 := by omega
          clear hb1 t1 c1 hb hbel
          go_wp2
          go_roundw
          case rel => exact ⟨k + 1, _, by omega, by go_num, rfl, by omega, by omega, HA'.out, hB1⟩
          case measure => simp [intOf]; omega
        · have HZ : Hid (szR r l[k].length = -1) := szR_neg hq
          rw [HZ.out]
          clear hb1 t1 c1 hb hbel
          go_wp2
          go_ret
          exact ⟨_, rfl, by omega, fun h => absurd h (by omega), hB1⟩
      · obtain rfl : k = n := by omega
        go_wp2
        go_ret
        exact ⟨r, rfl, r1, fun _ => ⟨by omega, fun d hd => by
          obtain ⟨i, hi, rfl⟩ := List.mem_iff_getElem.1 hd
          exact HA.out i hi (by rw [← Hn.out]; exact hi)⟩, hbel⟩
  · go_enter Try.func6, Try.ntmps6
    go_wp2
    go_ret
    exact ⟨-1, rfl, by omega, fun h => absurd h (by omega), Bel.refl _⟩

theorem cellsIss : Try.prog.cellsOf 48 = 1 := by kernel_rfl
section
variable {H : Type} {enc : TypeId × Value → H} {W : World} {base : Nat} {spare : Nat → Bool} {held : Bool}
set_option maxRecDepth 100000 in
theorem openIss {fuel : Nat} {cs : List Value} {x : DataW H × List MemPlace} (h : DataW.trod enc Try.prog W base spare held fuel 27 cs = some x) :
    ∃ a c l bs, cs = [.slice a l.length c] ∧ IsL W a l bs ∧ l.length ≤ maxLen := by
  refine open_sl (by decide) Try.underlying27 cellsIss ?_ h
  intro b o n cs x hl hc hx
  match cs, hl with
  | [v0], _ =>
    obtain ⟨a, c, l, bs, e, hT, hm⟩ := openIs hx
    have e0 : v0 = .slice a l.length c := by simpa using e
    rw [e0] at hc
    exact ⟨l, bs, a, c, hm, hc 0 (by simp), hT⟩
end
set_option maxRecDepth 100000 in
theorem open_intss {H : Type} {enc : TypeId × Value → H} {W : World} {base : Nat} {v : Value} {d : DataW H} {p : List MemPlace}
    (hv : Value.okWide Try.prog W .any base 27 v) (h : DataW.Trod enc Try.prog W 0 (fun _ => true) true 27 v d p) :
    ∃ a c l bs, v = .slice a l.length c ∧ IsL W a l bs ∧ l.length ≤ maxLen := by
  obtain ⟨a, n, c, rfl⟩ := okWide_slice Try.underlying27 hv
  obtain ⟨fuel, hf⟩ := h
  obtain ⟨a', c', l, bs, hcs, hT, hl⟩ := openIss hf
  simp [Value.cells] at hcs
  obtain ⟨rfl, rfl, rfl⟩ := hcs
  exact ⟨_, _, _, _, rfl, hT, hl⟩
end Go.Proofs.Ytiagdabikbjbiaa
