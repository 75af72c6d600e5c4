/-
  The walk of the law: for every graph NoBack answers as its model does; what was handed in stays as it was; the answer shares no memory with it nor with the answer of another call.
-/
import Derived.Test.YtiagdabikbjbiaaNobS
import Derived.Test.YtiagdabikbjbiaaMarkY
import Derived.Test.YtiagdabikbjbiaaHeldI
import Derived.Test.YtiagdabikbjbiaaGphL
import Derived.Test.YtiagdabikbjbiaaDInt64
import Derived.Deep.RegionHeld3
namespace Go.Proofs.Ytiagdabikbjbiaa
open Go.RowKit

theorem Blk.onl {w w' : World} {B : Nat} {vs : List Value} {ds : List Nat} (h : Blk w B vs) (ho : Onl ds w w') (hn : B ∉ ds) : Blk w' B vs :=
  ⟨Nat.lt_of_lt_of_le h.lt ho.size, fun j hj => by rw [OnlF.cell ho h.lt hn]; exact h.cell j hj, fun j => by rw [OnlF.frozen ho h.lt hn]; exact h.free j⟩
theorem GphV.onl {w w' : World} {v : Value} {g : GraphD} {bs ds : List Nat} (h : GphV w v g bs) (ho : Onl ds w w') (hd : ∀ x ∈ bs, x ∉ ds) : GphV w' v g bs := h.alike (ho.alike h.lt hd)
theorem free_onl {w w' : World} {bs ds : List Nat} (h : ∀ x ∈ bs, ∀ j, w.frozen? ⟨x, j, none⟩ = false) (hl : ∀ x ∈ bs, x < w.heap.size) (ho : Onl ds w w') (hd : ∀ x ∈ bs, x ∉ ds) : ∀ x ∈ bs, ∀ j, w'.frozen? ⟨x, j, none⟩ = false :=
  fun x hx j => by rw [OnlF.frozen ho (hl x hx) (hd x hx)]; exact h x hx j
theorem nobQ_Q {g : GraphD} (h : GphQ g) : GphQ (nobQ g) := by
  by_cases hh : graphP g
  · rw [nobQ_yes hh]
    unfold tldQ
    split
    · exact ⟨h.1, h.2.1, by simp only []; omega⟩
    · exact ⟨by simp, by simp, by simp⟩
  · rw [nobQ_no hh]
    exact ⟨by simp, by simp, by simp⟩
theorem gMk_bd {g : GraphD} (h : GphQ g) : 0 < gMk g ∧ gMk g ≤ 20000000 := by
  obtain ⟨h0, h1, h2⟩ := h
  unfold gMk
  omega

set_option maxRecDepth 100000 in
set_option maxHeartbeats 4000000 in
theorem lawFnExactNoBack_any (v : Value) (m : GraphD) (bs : List Nat) (w : World) (hV : GphV w v m bs) (hN : GphN m) :
    Calls Try.prog 4 #[v] w fun e w' => e = .returned (.bool true) ∧ Bel w w' := by
  have hV' := hV
  obtain ⟨a0, c0, a1, c1, a2, c2, b0, b1, b2, _, rfl, _, _, _⟩ := hV
  obtain ⟨n0, hn0⟩ : ∃ n, m.places.length = n := ⟨_, rfl⟩
  obtain ⟨n1, hn1⟩ : ∃ n, m.roads.length = n := ⟨_, rfl⟩
  obtain ⟨n2, hn2⟩ : ∃ n, m.bans.length = n := ⟨_, rfl⟩
  rw [hn0, hn1, hn2] at hV' ⊢
  clear hn0 hn1 hn2
  have X0 : Blk (w.alloc (.cells #[.slice a0 n0 c0, .slice a1 n1 c1, .slice a2 n2 c2] 26)) w.heap.size [.slice a0 n0 c0, .slice a1 n1 c1, .slice a2 n2 c2] := Blk.new w [.slice a0 n0 c0, .slice a1 n1 c1, .slice a2 n2 c2] _
  have S0 : Bel w (w.alloc (.cells #[.slice a0 n0 c0, .slice a1 n1 c1, .slice a2 n2 c2] 26)) := bel_alloc (Bel.refl _) _
  by_cases hf : ((graphSz m : Nat) : Int) ≤ 1048576
  rotate_left
  · obtain ⟨r, Hr⟩ : ∃ r, Hid (szR 1048576 (graphSz m) = r) := ⟨_, (rfl : szR 1048576 (graphSz m) = _)⟩
    have hr0 : r = -1 := by rw [← Hr.out]; exact szR_neg hf
    subst hr0
    clear hf
    go_enter Try.func4, Try.ntmps4
    go_wp2_with fail
    refine (szGraph_v _ m bs _ _ (hV'.bel S0) hN (by omega) (by omega)).mono ?_
    rintro e w1 ⟨rfl, hb1⟩
    rw [Hr.out]
    go_wp2
    go_ret
    exact ⟨rfl, bel_step S0 hb1⟩
  · have hL := gphQ_of (g := m) (by omega)
    have hs : szR 1048576 (graphSz m) = 1048576 - graphSz m := szR_pos hf
    obtain ⟨r, Hr⟩ : ∃ r, Hid (szR 1048576 (graphSz m) = r) := ⟨_, (rfl : szR 1048576 (graphSz m) = _)⟩
    have hr0 : 0 ≤ r := by rw [← Hr.out, hs]; omega
    have HL : Hid (GphQ m) := hL
    have HQ : Hid (GphQ (nobQ m)) := nobQ_Q hL
    obtain ⟨R, HR⟩ : ∃ R, Hid (nobQ m = R) := ⟨_, (rfl : nobQ m = _)⟩
    rw [HR.out] at HQ
    clear hs hf hL
    go_enter Try.func4, Try.ntmps4
    go_wp2_with fail
    refine (szGraph_v _ m bs _ _ (hV'.bel S0) hN (by omega) (by omega)).mono ?_
    rintro e w1 ⟨rfl, hb1⟩
    rw [Hr.out]
    have S1 := bel_step S0 hb1
    have X1 := X0.bel hb1
    have x10 : w1.cell? ⟨w.heap.size, 0, none⟩ = some (.slice a0 n0 c0) := X1.cell 0 (by simp)
    have x11 : w1.cell? ⟨w.heap.size, 1, none⟩ = some (.slice a1 n1 c1) := X1.cell 1 (by simp)
    have x12 : w1.cell? ⟨w.heap.size, 2, none⟩ = some (.slice a2 n2 c2) := X1.cell 2 (by simp)
    have x1l := X1.lt
    go_wp2_with fail
    refine (toGraph_v _ m bs _ (hV'.bel S1) HL.out).mono ?_
    rintro e w2 ⟨v2, d2, rfl, V2, _, hb2⟩
    have S2 := bel_step S1 hb2
    go_wp2_with fail
    refine (specNoBack_any _ m d2 _ V2 HL.out).mono ?_
    rintro e w3 ⟨v3, bs3, rfl, V3, _, hb3⟩
    rw [HR.out] at V3
    have S3 := bel_step S2 hb3
    have X3 := (X1.bel hb2).bel hb3
    have V3' := V3
    obtain ⟨e0, f0, e1, f1, e2, f2, _, _, _, _, rfl, _⟩ := V3
    obtain ⟨k0, hk0⟩ : ∃ n, R.places.length = n := ⟨_, rfl⟩
    obtain ⟨k1, hk1⟩ : ∃ n, R.roads.length = n := ⟨_, rfl⟩
    obtain ⟨k2, hk2⟩ : ∃ n, R.bans.length = n := ⟨_, rfl⟩
    have HK0 : Hid (R.places.length = k0) := hk0
    have HK1 : Hid (R.roads.length = k1) := hk1
    have HK2 : Hid (R.bans.length = k2) := hk2
    rw [hk0, hk1, hk2] at V3' ⊢
    clear hk0 hk1 hk2 X1 x10 x11 x12 x1l V2
    obtain ⟨T3, HT3⟩ : ∃ W, Hid (W = w3.alloc (.cells #[.slice e0 k0 f0, .slice e1 k1 f1, .slice e2 k2 f2] 34)) := ⟨_, (rfl : w3.alloc (.cells #[.slice e0 k0 f0, .slice e1 k1 f1, .slice e2 k2 f2] 34) = _)⟩
    have bT3 : Bel w3 T3 := by rw [HT3.out]; exact bel_alloc (Bel.refl _) _
    have XT3 : Blk T3 w3.heap.size [.slice e0 k0 f0, .slice e1 k1 f1, .slice e2 k2 f2] := by rw [HT3.out]; exact Blk.new w3 [.slice e0 k0 f0, .slice e1 k1 f1, .slice e2 k2 f2] _
    have S3b := bel_step S3 bT3
    have X3b := X3.bel bT3
    have x30 : T3.cell? ⟨w.heap.size, 0, none⟩ = some (.slice a0 n0 c0) := X3b.cell 0 (by simp)
    have x31 : T3.cell? ⟨w.heap.size, 1, none⟩ = some (.slice a1 n1 c1) := X3b.cell 1 (by simp)
    have x32 : T3.cell? ⟨w.heap.size, 2, none⟩ = some (.slice a2 n2 c2) := X3b.cell 2 (by simp)
    have x3l := X3b.lt
    go_upto_region 6 with fail
    rw [← HT3.out]
    go_wp2_with fail
    refine (toGraph_v _ m bs _ (hV'.bel S3b) HL.out).mono ?_
    rintro e w4 ⟨v4, d4, rfl, V4, F4, hb4⟩
    have S4 := bel_step S3b hb4
    have V4' := V4
    obtain ⟨z0, y0, z1, y1, z2, y2, _, _, _, _, rfl, _⟩ := V4
    obtain ⟨s0, hs0⟩ : ∃ n, m.places.length = n := ⟨_, rfl⟩
    obtain ⟨s1, hs1⟩ : ∃ n, m.roads.length = n := ⟨_, rfl⟩
    obtain ⟨s2, hs2⟩ : ∃ n, m.bans.length = n := ⟨_, rfl⟩
    rw [hs0, hs1, hs2] at V4' ⊢
    clear hs0 hs1 hs2 x30 x31 x32 x3l
    obtain ⟨T4, HT4⟩ : ∃ W, Hid (W = w4.alloc (.cells #[.slice z0 s0 y0, .slice z1 s1 y1, .slice z2 s2 y2] 34)) := ⟨_, (rfl : w4.alloc (.cells #[.slice z0 s0 y0, .slice z1 s1 y1, .slice z2 s2 y2] 34) = _)⟩
    have bT4 : Bel w4 T4 := by rw [HT4.out]; exact bel_alloc (Bel.refl _) _
    have XT4 : Blk T4 w4.heap.size [.slice z0 s0 y0, .slice z1 s1 y1, .slice z2 s2 y2] := by rw [HT4.out]; exact Blk.new w4 [.slice z0 s0 y0, .slice z1 s1 y1, .slice z2 s2 y2] _
    have S4b := bel_step S4 bT4
    go_upto_region 7 with fail
    rw [← HT4.out]
    have h45 := bT4
    have XT45 := XT4
    have p50 : T4.cell? ⟨w4.heap.size, 0, none⟩ = some (.slice z0 s0 y0) := XT45.cell 0 (by simp)
    have p51 : T4.cell? ⟨w4.heap.size, 1, none⟩ = some (.slice z1 s1 y1) := XT45.cell 1 (by simp)
    have p52 : T4.cell? ⟨w4.heap.size, 2, none⟩ = some (.slice z2 s2 y2) := XT45.cell 2 (by simp)
    have p5l := XT45.lt
    go_wp2_with fail
    refine (noBackI_any _ m d4 _ (V4'.bel bT4) HL.out).mono ?_
    rintro e w6 ⟨v6, bs6, rfl, V6, F6, hb6⟩
    rw [HR.out] at V6
    have S6 := bel_step S4b hb6
    have V6' := V6
    obtain ⟨g0, h0, g1, h1, g2, h2, _, _, _, _, rfl, _⟩ := V6
    rw [HK0.out, HK1.out, HK2.out] at V6' ⊢
    clear p50 p51 p52 p5l
    obtain ⟨Z, HZ⟩ : ∃ W, Hid (W = w6.alloc (.cells #[.slice g0 k0 h0, .slice g1 k1 h1, .slice g2 k2 h2] 34)) := ⟨_, (rfl : w6.alloc (.cells #[.slice g0 k0 h0, .slice g1 k1 h1, .slice g2 k2 h2] 34) = _)⟩
    have bZ : Bel w6 Z := by rw [HZ.out]; exact bel_alloc (Bel.refl _) _
    have XZ : Blk Z w6.heap.size [.slice g0 k0 h0, .slice g1 k1 h1, .slice g2 k2 h2] := by rw [HZ.out]; exact Blk.new w6 [.slice g0 k0 h0, .slice g1 k1 h1, .slice g2 k2 h2] _
    have SZ := bel_step S6 bZ
    have h5Z := bel_step hb6 bZ
    have h4Z := bel_step h45 h5Z
    have h3Z : Bel w3 Z := bel_step bT3 (bel_step hb4 h4Z)
    have hT3Z : Bel T3 Z := bel_step hb4 h4Z
    have XP : Hid (Blk Z w.heap.size [.slice a0 n0 c0, .slice a1 n1 c1, .slice a2 n2 c2]) := X3b.bel hT3Z
    have XW : Hid (Blk Z w3.heap.size [.slice e0 k0 f0, .slice e1 k1 f1, .slice e2 k2 f2]) := XT3.bel hT3Z
    have XX : Hid (Blk Z w4.heap.size [.slice z0 s0 y0, .slice z1 s1 y1, .slice z2 s2 y2]) := XT4.bel h5Z
    have XG : Hid (Blk Z w6.heap.size [.slice g0 k0 h0, .slice g1 k1 h1, .slice g2 k2 h2]) := XZ
    have VW : Hid (GphV Z (.agg #[.slice e0 k0 f0, .slice e1 k1 f1, .slice e2 k2 f2]) R bs3) := V3'.bel h3Z
    have VX : Hid (GphV Z (.agg #[.slice z0 s0 y0, .slice z1 s1 y1, .slice z2 s2 y2]) m d4) := V4'.bel h4Z
    have VG : Hid (GphV Z (.agg #[.slice g0 k0 h0, .slice g1 k1 h1, .slice g2 k2 h2]) R bs6) := V6'.bel bZ
    have FX : Hid (Fresh T3 Z d4) := F4.bel h4Z
    have FG : Hid (Fresh T4 Z bs6) := F6.bel bZ
    have q3 : w.heap.size < w3.heap.size := X3.lt
    have qT3 : w3.heap.size < T3.heap.size := XT3.lt
    have q34 := hb4.out.size
    have qT4 : w4.heap.size < T4.heap.size := XT4.lt
    have q56 := hb6.out.size
    have L4 : ∀ x ∈ d4, T3.heap.size ≤ x ∧ x < w4.heap.size := F4.new
    have L6 : ∀ x ∈ bs6, T4.heap.size ≤ x ∧ x < w6.heap.size := F6.new
    have L3 : ∀ x ∈ bs3, x < w3.heap.size := V3'.lt
    have NP4 : Hid (w.heap.size ∉ d4 ∧ w3.heap.size ∉ d4 ∧ w4.heap.size ∉ d4 ∧ w6.heap.size ∉ d4) := ⟨fun h => by have := L4 _ h; omega, fun h => by have := L4 _ h; omega, fun h => by have := L4 _ h; omega, fun h => by have := L4 _ h; omega⟩
    have NP6 : Hid (w.heap.size ∉ bs6 ∧ w3.heap.size ∉ bs6 ∧ w4.heap.size ∉ bs6 ∧ w6.heap.size ∉ bs6) := ⟨fun h => by have := L6 _ h; omega, fun h => by have := L6 _ h; omega, fun h => by have := L6 _ h; omega, fun h => by have := L6 _ h; omega⟩
    have D34 : Hid (∀ x ∈ bs3, x ∉ d4) := fun x hx hy => by have := L3 x hx; have := L4 x hy; omega
    have D36 : Hid (∀ x ∈ bs3, x ∉ bs6) := fun x hx hy => by have := L3 x hx; have := L6 x hy; omega
    have D64 : Hid (∀ x ∈ bs6, x ∉ d4) := fun x hx hy => by have := L6 x hx; have := L4 x hy; omega
    have G4 : Hid (∀ x ∈ d4, w.heap.size ≤ x) := fun x hx => by have := L4 x hx; omega
    have G6 : Hid (∀ x ∈ bs6, w.heap.size ≤ x) := fun x hx => by have := L6 x hx; omega
    clear X3 X3b XT3 XT4 XT45 XZ V3' V4' V6' F4 F6 L4 L6 L3 q3 qT3 q34 qT4 q56
    clear hb1 hb2 hb3 bT3 hb4 bT4 hb6 bZ h45 h5Z h4Z h3Z hT3Z S1 S2 S3 S3b S4 S4b S6
    have zg0 : Z.cell? ⟨w6.heap.size, 0, none⟩ = some (.slice g0 k0 h0) := XG.out.cell 0 (by simp)
    have zg1 : Z.cell? ⟨w6.heap.size, 1, none⟩ = some (.slice g1 k1 h1) := XG.out.cell 1 (by simp)
    have zg2 : Z.cell? ⟨w6.heap.size, 2, none⟩ = some (.slice g2 k2 h2) := XG.out.cell 2 (by simp)
    have zgl := XG.out.lt
    have zw0 : Z.cell? ⟨w3.heap.size, 0, none⟩ = some (.slice e0 k0 f0) := XW.out.cell 0 (by simp)
    have zw1 : Z.cell? ⟨w3.heap.size, 1, none⟩ = some (.slice e1 k1 f1) := XW.out.cell 1 (by simp)
    have zw2 : Z.cell? ⟨w3.heap.size, 2, none⟩ = some (.slice e2 k2 f2) := XW.out.cell 2 (by simp)
    have zwl := XW.out.lt
    go_upto_region 8 with fail
    rw [← HZ.out]
    go_wp2_with fail
    refine (eqGraph_v _ _ R bs6 bs3 _ VG.out VW.out HQ.out).mono ?_
    rintro e w7 ⟨rfl, hb7⟩
    clear zg0 zg1 zg2 zgl zw0 zw1 zw2 zwl
    have hR : ∀ w', Bel w7 w' → w'.cell? ⟨w.heap.size, 0, none⟩ = some (.slice a0 n0 c0) ∧ w'.cell? ⟨w.heap.size, 1, none⟩ = some (.slice a1 n1 c1) ∧ w'.cell? ⟨w.heap.size, 2, none⟩ = some (.slice a2 n2 c2) ∧ w'.cell? ⟨w4.heap.size, 0, none⟩ = some (.slice z0 s0 y0) ∧ w'.cell? ⟨w4.heap.size, 1, none⟩ = some (.slice z1 s1 y1) ∧ w'.cell? ⟨w4.heap.size, 2, none⟩ = some (.slice z2 s2 y2) := fun w' h => ⟨(XP.out.bel (bel_step hb7 h)).cell 0 (by simp), (XP.out.bel (bel_step hb7 h)).cell 1 (by simp), (XP.out.bel (bel_step hb7 h)).cell 2 (by simp), (XX.out.bel (bel_step hb7 h)).cell 0 (by simp), (XX.out.bel (bel_step hb7 h)).cell 1 (by simp), (XX.out.bel (bel_step hb7 h)).cell 2 (by simp)⟩
    have g00 : Bel w7 w7 := Bel.refl _
    have hM5 : ∀ w', Bel w7 w' → GphV w' (.agg #[.slice a0 n0 c0, .slice a1 n1 c1, .slice a2 n2 c2]) m bs := fun w' h => hV'.bel (bel_step SZ (bel_step hb7 h))
    have hX5 : ∀ w', Bel w7 w' → GphV w' (.agg #[.slice z0 s0 y0, .slice z1 s1 y1, .slice z2 s2 y2]) m d4 := fun w' h => VX.out.bel (bel_step hb7 h)
    go_wp2
    go_region_held3 (fun w' => Bel w7 w') (with_reducible (repeat (first | assumption | exact g00 | refine Bel.drew ?_ | refine bel_then (by assumption) ?_)))
      (first
        | (go_at_call 8; refine (toGraph_v _ m bs _ (hM5 _ (by assumption)) HL.out).mono ?_; rintro e w8 ⟨v8, d8, rfl, V8, _, hb8⟩)
        | (go_at_call 11; refine (eqGraph_v _ _ m d4 d8 _ (hX5 _ (by assumption)) V8 HL.out).mono ?_; rintro e w9 ⟨rfl, hb9⟩))
    have hH : Bel w7 w9 := by assumption
    have hZ9 : Bel Z w9 := bel_step hb7 hH
    clear hR hM5 hX5
    have O11 : Hid (Onl [] Z w9) := (Onl.refl [] Z).bel hZ9
    have XX11 := XX.out.onl O11.out (by simp)
    have r0 : w9.cell? ⟨w4.heap.size, 0, none⟩ = some (.slice z0 s0 y0) := XX11.cell 0 (by simp)
    have r1 : w9.cell? ⟨w4.heap.size, 1, none⟩ = some (.slice z1 s1 y1) := XX11.cell 1 (by simp)
    have r2 : w9.cell? ⟨w4.heap.size, 2, none⟩ = some (.slice z2 s2 y2) := XX11.cell 2 (by simp)
    have rl := XX11.lt
    clear XX11
    go_wp2_with fail
    refine (markGraph_x _ m d4 _ (VX.out.onl O11.out (fun _ _ h => nomatch h)) HL.out (free_onl FX.out.free VX.out.lt O11.out (fun _ _ h => nomatch h)) FX.out.nd).mono ?_
    rintro e w12 ⟨rfl, _, P12⟩
    obtain ⟨K, HKK⟩ : ∃ K, Hid (gMk m = K) := ⟨_, (rfl : gMk m = _)⟩
    rw [HKK.out]
    have hKb := gMk_bd HL.out
    rw [HKK.out] at hKb
    have O12 : Hid (Onl d4 Z w12) := (O11.out.mono (fun _ h => nomatch h)).trans P12
    clear r0 r1 r2 rl
    have O13 : Hid (Onl d4 Z w12) := O12.out
    have N13 : Hid (w.heap.size ∉ d4 ∧ w3.heap.size ∉ d4 ∧ w4.heap.size ∉ d4 ∧ w6.heap.size ∉ d4) := NP4.out
    have D13 : Hid ((∀ x ∈ bs3, x ∉ d4) ∧ ∀ x ∈ bs6, x ∉ d4) := ⟨D34.out, D64.out⟩
    have W13 : Hid (GphV w12 (.agg #[.slice e0 k0 f0, .slice e1 k1 f1, .slice e2 k2 f2]) R bs3) := VW.out.onl O13.out D13.out.1
    have G13 : Hid (GphV w12 (.agg #[.slice g0 k0 h0, .slice g1 k1 h1, .slice g2 k2 h2]) R bs6) := VG.out.onl O13.out D13.out.2
    have XG13 := XG.out.onl O13.out N13.out.2.2.2
    have XW13 := XW.out.onl O13.out N13.out.2.1
    have zg0 : w12.cell? ⟨w6.heap.size, 0, none⟩ = some (.slice g0 k0 h0) := XG13.cell 0 (by simp)
    have zg1 : w12.cell? ⟨w6.heap.size, 1, none⟩ = some (.slice g1 k1 h1) := XG13.cell 1 (by simp)
    have zg2 : w12.cell? ⟨w6.heap.size, 2, none⟩ = some (.slice g2 k2 h2) := XG13.cell 2 (by simp)
    have zgl := XG13.lt
    have zw0 : w12.cell? ⟨w3.heap.size, 0, none⟩ = some (.slice e0 k0 f0) := XW13.cell 0 (by simp)
    have zw1 : w12.cell? ⟨w3.heap.size, 1, none⟩ = some (.slice e1 k1 f1) := XW13.cell 1 (by simp)
    have zw2 : w12.cell? ⟨w3.heap.size, 2, none⟩ = some (.slice e2 k2 f2) := XW13.cell 2 (by simp)
    have zwl := XW13.lt
    have hkd : decide ((K : Int) < 0) = false := decide_eq_false (by omega)
    clear XG13 XW13
    go_wp2_with fail
    refine (eqGraph_v _ _ R bs6 bs3 _ G13.out W13.out HQ.out).mono ?_
    rintro e w14 ⟨rfl, hb14⟩
    have O14 : Hid (Onl d4 Z w14) := O13.out.bel hb14
    have XG14 := XG.out.onl O14.out N13.out.2.2.2
    clear zg0 zg1 zg2 zgl zw0 zw1 zw2 zwl
    have zg0 : w14.cell? ⟨w6.heap.size, 0, none⟩ = some (.slice g0 k0 h0) := XG14.cell 0 (by simp)
    have zg1 : w14.cell? ⟨w6.heap.size, 1, none⟩ = some (.slice g1 k1 h1) := XG14.cell 1 (by simp)
    have zg2 : w14.cell? ⟨w6.heap.size, 2, none⟩ = some (.slice g2 k2 h2) := XG14.cell 2 (by simp)
    have zgl := XG14.lt
    clear XG14
    go_wp2_with fail
    refine (markGraph_x _ R bs6 _ (VG.out.onl O14.out D13.out.2) HQ.out (free_onl FG.out.free VG.out.lt O14.out D13.out.2) FG.out.nd).mono ?_
    rintro e w15 ⟨rfl, M15, P15⟩
    obtain ⟨K2, HK⟩ : ∃ K, Hid (gMk R = K) := ⟨_, (rfl : gMk R = _)⟩
    rw [HK.out]
    have O15 : Hid (Onl (d4 ++ bs6) Z w15) := (O14.out.mono (fun x h => List.mem_append.2 (.inl h))).trans (P15.mono (fun x h => List.mem_append.2 (.inr h)))
    have N15 : Hid (w.heap.size ∉ d4 ++ bs6 ∧ w3.heap.size ∉ d4 ++ bs6 ∧ w6.heap.size ∉ d4 ++ bs6) := ⟨fun h => (List.mem_append.1 h).elim N13.out.1 NP6.out.1, fun h => (List.mem_append.1 h).elim N13.out.2.1 NP6.out.2.1, fun h => (List.mem_append.1 h).elim N13.out.2.2.2 NP6.out.2.2.2⟩
    have D15 : Hid (∀ x ∈ bs3, x ∉ d4 ++ bs6) := fun x hx h => (List.mem_append.1 h).elim (D13.out.1 x hx) (D36.out x hx)
    have G15 : Hid (∀ x ∈ d4 ++ bs6, w.heap.size ≤ x) := fun x h => (List.mem_append.1 h).elim (G4.out x) (G6.out x)
    have S15 : Bel w w15 := Onl.to_bel SZ O15.out G15.out
    have XG15 := XG.out.onl O15.out N15.out.2.2
    have XP15 := XP.out.onl O15.out N15.out.1
    have XW15 : Hid (Blk w15 w3.heap.size [.slice e0 k0 f0, .slice e1 k1 f1, .slice e2 k2 f2]) := XW.out.onl O15.out N15.out.2.1
    have W15 : Hid (GphV w15 (.agg #[.slice e0 k0 f0, .slice e1 k1 f1, .slice e2 k2 f2]) R bs3) := VW.out.onl O15.out D15.out
    have HM15 : Hid (MkG w15 (.agg #[.slice g0 k0 h0, .slice g1 k1 h1, .slice g2 k2 h2]) R bs6) := M15
    clear zg0 zg1 zg2 zgl
    have zg0 : w15.cell? ⟨w6.heap.size, 0, none⟩ = some (.slice g0 k0 h0) := XG15.cell 0 (by simp)
    have zg1 : w15.cell? ⟨w6.heap.size, 1, none⟩ = some (.slice g1 k1 h1) := XG15.cell 1 (by simp)
    have zg2 : w15.cell? ⟨w6.heap.size, 2, none⟩ = some (.slice g2 k2 h2) := XG15.cell 2 (by simp)
    have zgl := XG15.lt
    clear M15
    go_wp2_with fail
    refine (heldGraph_x _ R bs6 _ HM15.out HQ.out).mono ?_
    rintro e w16 ⟨rfl, hb16⟩
    rw [HK.out]
    have hk2 : decide ((K2 : Int) < 0) = false := by simp
    have hk3 : ((K2 : Int) != (K2 : Int)) = false := by simp
    have S16 := bel_step S15 hb16
    have XP16 := XP15.bel hb16
    clear zg0 zg1 zg2 zgl XP15
    have x0 : w16.cell? ⟨w.heap.size, 0, none⟩ = some (.slice a0 n0 c0) := XP16.cell 0 (by simp)
    have x1 : w16.cell? ⟨w.heap.size, 1, none⟩ = some (.slice a1 n1 c1) := XP16.cell 1 (by simp)
    have x2 : w16.cell? ⟨w.heap.size, 2, none⟩ = some (.slice a2 n2 c2) := XP16.cell 2 (by simp)
    have xl := XP16.lt
    clear XP16
    go_wp2_with fail
    refine (toGraph_v _ m bs _ (hV'.bel S16) HL.out).mono ?_
    rintro e w17 ⟨v17, d17, rfl, V17, _, hb17⟩
    have S17 := bel_step S16 hb17
    clear x0 x1 x2 xl
    go_wp2_with fail
    refine (noBackI_any _ m d17 _ V17 HL.out).mono ?_
    rintro e w19 ⟨v19, bs19, rfl, V19, _, hb19⟩
    rw [HR.out] at V19
    have h19 : Bel w15 w19 := bel_step hb16 (bel_step hb17 hb19)
    have V19' := V19
    obtain ⟨t0, u0, t1, u1, t2, u2, _, _, _, _, rfl, _⟩ := V19
    rw [HK0.out, HK1.out, HK2.out] at V19' ⊢
    clear V17
    obtain ⟨Y, HY⟩ : ∃ W, Hid (W = w19.alloc (.cells #[.slice t0 k0 u0, .slice t1 k1 u1, .slice t2 k2 u2] 34)) := ⟨_, (rfl : w19.alloc (.cells #[.slice t0 k0 u0, .slice t1 k1 u1, .slice t2 k2 u2] 34) = _)⟩
    have bY : Bel w19 Y := by rw [HY.out]; exact bel_alloc (Bel.refl _) _
    have XY : Blk Y w19.heap.size [.slice t0 k0 u0, .slice t1 k1 u1, .slice t2 k2 u2] := by rw [HY.out]; exact Blk.new w19 [.slice t0 k0 u0, .slice t1 k1 u1, .slice t2 k2 u2] _
    have hY : Bel w15 Y := bel_step h19 bY
    have XW20 := XW15.out.bel hY
    have VY := V19'.bel bY
    have ty0 : Y.cell? ⟨w19.heap.size, 0, none⟩ = some (.slice t0 k0 u0) := XY.cell 0 (by simp)
    have ty1 : Y.cell? ⟨w19.heap.size, 1, none⟩ = some (.slice t1 k1 u1) := XY.cell 1 (by simp)
    have ty2 : Y.cell? ⟨w19.heap.size, 2, none⟩ = some (.slice t2 k2 u2) := XY.cell 2 (by simp)
    have tyl := XY.lt
    have zw0 : Y.cell? ⟨w3.heap.size, 0, none⟩ = some (.slice e0 k0 f0) := XW20.cell 0 (by simp)
    have zw1 : Y.cell? ⟨w3.heap.size, 1, none⟩ = some (.slice e1 k1 f1) := XW20.cell 1 (by simp)
    have zw2 : Y.cell? ⟨w3.heap.size, 2, none⟩ = some (.slice e2 k2 f2) := XW20.cell 2 (by simp)
    have zwl := XW20.lt
    clear XY XW20 V19'
    go_upto_region 25 with fail
    rw [← HY.out]
    go_wp2_with fail
    refine (eqGraph_v _ _ R bs19 bs3 _ VY (W15.out.bel hY) HQ.out).mono ?_
    rintro e w20 ⟨rfl, hb20⟩
    have h20 : Bel w15 w20 := bel_step hY hb20
    have XG20 := XG15.bel h20
    clear ty0 ty1 ty2 tyl zw0 zw1 zw2 zwl VY
    have zg0 : w20.cell? ⟨w6.heap.size, 0, none⟩ = some (.slice g0 k0 h0) := XG20.cell 0 (by simp)
    have zg1 : w20.cell? ⟨w6.heap.size, 1, none⟩ = some (.slice g1 k1 h1) := XG20.cell 1 (by simp)
    have zg2 : w20.cell? ⟨w6.heap.size, 2, none⟩ = some (.slice g2 k2 h2) := XG20.cell 2 (by simp)
    have zgl := XG20.lt
    clear XG20 XG15
    go_wp2_with fail
    refine (heldGraph_x _ R bs6 _ (HM15.out.bel h20) HQ.out).mono ?_
    rintro e w21 ⟨rfl, hb21⟩
    rw [HK.out]
    clear zg0 zg1 zg2 zgl
    go_wp2
    go_ret
    exact ⟨rfl, bel_step S15 (bel_step h20 hb21)⟩
end Go.Proofs.Ytiagdabikbjbiaa
