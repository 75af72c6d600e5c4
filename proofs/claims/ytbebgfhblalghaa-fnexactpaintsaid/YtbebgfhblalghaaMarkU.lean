/-
  Tests and rules of a style, marked; marked tests, asked for: contracts.
-/
import Derived.Test.YtbebgfhblalghaaMarkD
import Derived.Test.YtbebgfhblalghaaStyD
import Derived.Deep.RegionHeld3
namespace Go.Proofs.Ytbebgfhblalghaa
open Go.RowKit Go.Maps

def mkTest (k : Nat) : TestD := ⟨mT k, ((k + 1 : Nat) : Int), mT (k + 2)⟩
def mkTests (k : Nat) (l : List TestD) : List TestD := (List.range l.length).map fun i => mkTest (k + 3 * i)
theorem mkTests_len (k : Nat) (l : List TestD) : (mkTests k l).length = l.length := by simp [mkTests]
/-- The world with a test marked: behind the first text, the number, the second text. -/
def tri1 (w : World) (b p : Nat) (u v : Value) : World := (w.setCell ⟨b, p, none⟩ u).setCell ⟨b, p + 1, none⟩ v
theorem tri_size (w : World) (b p : Nat) (u v : Value) : (tri1 w b p u v).heap.size = w.heap.size := by simp [tri1, World.setCell]
theorem tri_fr (w : World) (b p : Nat) (u v : Value) (x : Addr) : (tri1 w b p u v).frozen? x = w.frozen? x := by simp [tri1, World.frozen?_setCell]
theorem tri_off (w : World) (b p o : Nat) (u v : Value) (ho : o < p ∨ p + 2 ≤ o) : (tri1 w b p u v).cell? ⟨b, o, none⟩ = w.cell? ⟨b, o, none⟩ := by
  unfold tri1
  rw [World.cell?_setCell_other _ _ _ _ (fun e => by have := congrArg Addr.off e; simp at this; omega), World.cell?_setCell_other _ _ _ _ (fun e => by have := congrArg Addr.off e; simp at this; omega)]
theorem tri_at (w : World) (b p : Nat) (u v : Value) {x y : Value} (hx : w.cell? ⟨b, p, none⟩ = some x) (hy : w.cell? ⟨b, p + 1, none⟩ = some y) : (tri1 w b p u v).cell? ⟨b, p, none⟩ = some u ∧ (tri1 w b p u v).cell? ⟨b, p + 1, none⟩ = some v := by
  unfold tri1
  constructor
  · rw [World.cell?_setCell_other _ _ _ _ (fun e => by have := congrArg Addr.off e; simp at this)]
    exact World.cell?_setCell_same _ _ _ hx
  · exact World.cell?_setCell_same _ _ _ (by rw [World.cell?_setCell_other _ _ _ _ (fun e => by have := congrArg Addr.off e; simp at this)]; exact hy)

set_option maxRecDepth 100000 in
set_option maxHeartbeats 2000000 in
theorem markTestS_any (a : Option Addr) (n c : Nat) (l : List TestD) (bs : List Nat) (k : Nat) (w : World) (hT : Tests w a l bs) (hf : ∀ x ∈ bs, ∀ j, w.frozen? ⟨x, j, none⟩ = false) (hn : l.length = n) (hm : n ≤ 1048576) (h0k : 0 < k) (hk : k ≤ 1125899906842624) :
    Calls Try.prog 114 #[.slice a n c, .int .i64 k] w fun e w' => e = .returned (.int .i64 ((k + 3 * n : Nat) : Int)) ∧ Tests w' a (mkTests k l) bs ∧ (∀ x ∈ bs, ∀ j, w'.frozen? ⟨x, j, none⟩ = false) ∧ Onl bs w w' := by
  by_cases h0 : n = 0
  · subst h0
    obtain rfl : l = [] := List.length_eq_zero_iff.1 hn
    have HT : Hid (Tests w a (mkTests k []) bs) := hT
    clear hT
    go_enter Try.func114, Try.ntmps114
    go_wp2
    go_loopw [1, 5] (fun t i wr => t = .int .i64 k ∧ i = .int .i64 0 ∧ wr = w) (fun _ _ _ => 0)
    case atStart => exact ⟨rfl, rfl, rfl⟩
    case round =>
      obtain ⟨rfl, rfl, rfl⟩ := hrel
      go_wp2
      go_ret
      exact ⟨by simp, HT.out, hf, Onl.refl _ _⟩
  · rcases hT with ⟨rfl, _⟩ | ⟨b, off, f, rfl, hb, rfl, hx⟩
    · exact absurd hn.symm h0
    · have hfam : Fam 3 TestE w b off n (fun i => l.getD i ⟨⟨#[]⟩, 0, ⟨#[]⟩⟩) f := fun i hi => by
        show TestE w b (off + i * 3) (l.getD i ⟨⟨#[]⟩, 0, ⟨#[]⟩⟩) (f i)
        rw [getD_at ⟨⟨#[]⟩, 0, ⟨#[]⟩⟩ (show i < l.length by omega)]
        exact hx i (by omega)
      have hbf : ∀ j, w.frozen? ⟨b, j, none⟩ = false := hf b (by simp)
      have Hn : Hid (l.length = n) := hn
      have hfe : ∀ i, i < n → f i = [] := fun i hi => (hfam i hi).1
      clear hn hx hf
      go_enter Try.func114, Try.ntmps114
      go_wp2
      go_loopw [1, 5] (fun t i wr => ∃ j : Nat, j ≤ n ∧ i = .int .i64 j ∧ t = .int .i64 ((k + 3 * j : Nat) : Int) ∧ Fam 3 TestE wr b off n (upto j (fun i => mkTest (k + 3 * i)) (fun i => l.getD i ⟨⟨#[]⟩, 0, ⟨#[]⟩⟩)) f ∧ (∀ x, wr.frozen? ⟨b, x, none⟩ = false) ∧ Onl [b] w wr) (fun _ i _ => n - (intOf i).toNat)
      case atStart => exact ⟨0, Nat.zero_le _, rfl, by simp, by rw [upto_zero]; exact hfam, hbf, Onl.refl _ _⟩
      case round =>
        obtain ⟨j, hj, rfl, rfl, hF, hfr, hO⟩ := hrel
        have hbr := Nat.lt_of_lt_of_le hb hO.size
        by_cases hlt : j < n
        · obtain ⟨_, _, _, _, c0, c1, c2⟩ := hF j hlt
          have f0 := hfr (off + j * 3)
          have f1 := hfr (off + j * 3 + 1)
          have hlt' : (j : Int) < (n : Int) := by omega
          obtain ⟨kk, hkk⟩ : ∃ kk, k + 3 * j = kk := ⟨_, rfl⟩
          have hk1 : 0 < kk := by omega
          have hk2 : kk ≤ 1125903052570000 := by omega
          have HK : Hid (k + 3 * (j + 1) = kk + 3) := (by omega : k + 3 * (j + 1) = kk + 3)
          have HM : Hid (mkTest (k + 3 * j) = mkTest kk) := (by rw [hkk] : mkTest (k + 3 * j) = mkTest kk)
          rw [hkk]
          have hstep : ∀ w', (∀ o, o < off + j * 3 ∨ off + j * 3 + 3 ≤ o → w'.cell? ⟨b, o, none⟩ = wr.cell? ⟨b, o, none⟩) → TestE w' b (off + j * 3) (mkTest kk) [] → Fam 3 TestE w' b off n (upto (j + 1) (fun i => mkTest (k + 3 * i)) (fun i => l.getD i ⟨⟨#[]⟩, 0, ⟨#[]⟩⟩)) f := fun w' h1 h2 => by
            have := hF.step testE (w' := w') (j := j) (mkTest kk) h1 (fun i hi _ => by rw [hfe i hi]; exact fun x hx => nomatch hx) (by rw [hfe j hlt]; exact h2)
            rw [← HM.out, upto_step j (fun i => mkTest (k + 3 * i)) (fun i => l.getD i ⟨⟨#[]⟩, 0, ⟨#[]⟩⟩)] at this
            exact this
          clear hF hkk
          go_wp2_with fail
          refine (markText_any kk _ hk1 (by omega)).mono ?_
          rintro e w1 ⟨rfl, hb1⟩
          have g0 := bel_cellM hb1 hbr c0
          have g1 := bel_cellM hb1 hbr c1
          have fr1 : ∀ x, w1.frozen? ⟨b, x, none⟩ = false := fun x => by rw [hb1.out.frozen (p := ⟨b, x, none⟩) hbr]; exact hfr x
          have hO1 := ((hO.bel hb1).set (b := b) (by simp) (off + j * 3) (.string (mT kk))).set (b := b) (by simp) (off + j * 3 + 1) (.int .i64 ((kk : Int) + 1))
          have HKN : Hid ((kk : Int) + 1 + 1 = ((kk + 2 : Nat) : Int)) := (by omega : (kk : Int) + 1 + 1 = ((kk + 2 : Nat) : Int))
          obtain ⟨V, HV⟩ : ∃ V, Hid (V = tri1 w1 b (off + j * 3) (.string (mT kk)) (.int .i64 ((kk : Int) + 1))) := ⟨_, (rfl : tri1 w1 b (off + j * 3) (.string (mT kk)) (.int .i64 ((kk : Int) + 1)) = _)⟩
          have HV2 : Hid (V = (w1.setCell ⟨b, off + j * 3, none⟩ (.string (mT kk))).setCell ⟨b, off + j * 3 + 1, none⟩ (.int .i64 ((kk : Int) + 1))) := HV.out
          rw [← HV2.out] at hO1
          have hVs : V.heap.size = w1.heap.size := by rw [HV.out, tri_size]
          have hVf : ∀ x, V.frozen? x = w1.frozen? x := fun x => by rw [HV.out, tri_fr]
          have hVo : ∀ o, o < off + j * 3 ∨ off + j * 3 + 2 ≤ o → V.cell? ⟨b, o, none⟩ = w1.cell? ⟨b, o, none⟩ := fun o ho => by rw [HV.out]; exact tri_off _ _ _ _ _ _ ho
          have hVa : V.cell? ⟨b, off + j * 3, none⟩ = some (.string (mT kk)) ∧ V.cell? ⟨b, off + j * 3 + 1, none⟩ = some (.int .i64 ((kk : Int) + 1)) := by rw [HV.out]; exact tri_at _ _ _ _ _ g0 g1
          have fr1a := fr1 (off + j * 3)
          have fr1b := fr1 (off + j * 3 + 1)
          have hb1l := bel_lt hb1 hbr
          go_wp2_with fail
          rw [HKN.out, ← HV2.out]
          refine (markText_any (kk + 2) _ (by omega) (by omega)).mono ?_
          rintro e w3 ⟨rfl, hb3⟩
          have hbV : b < V.heap.size := by rw [hVs]; exact hb1l
          have q2 : w3.cell? ⟨b, off + j * 3 + 2, none⟩ = some (.string (upto j (fun i => mkTest (k + 3 * i)) (fun i => l.getD i ⟨⟨#[]⟩, 0, ⟨#[]⟩⟩) j).v) := bel_cellM hb3 hbV (by rw [hVo _ (by omega)]; exact bel_cellM hb1 hbr c2)
          have fr3 : ∀ x, w3.frozen? ⟨b, x, none⟩ = false := fun x => by rw [hb3.out.frozen (p := ⟨b, x, none⟩) hbV, hVf]; exact fr1 x
          have HF1 : Hid (Fam 3 TestE (w3.setCell ⟨b, off + j * 3 + 2, none⟩ (.string (mT (kk + 2)))) b off n (upto (j + 1) (fun i => mkTest (k + 3 * i)) (fun i => l.getD i ⟨⟨#[]⟩, 0, ⟨#[]⟩⟩)) f) :=
            hstep _ (fun o ho => by
              rw [World.cell?_setCell_other _ _ _ _ (fun e => by have := congrArg Addr.off e; simp at this; omega), hb3.out.cell (p := ⟨b, o, none⟩) hbV, hVo _ (by omega), hb1.out.cell (p := ⟨b, o, none⟩) hbr])
              ⟨rfl, by have := mT_size kk; unfold maxLen; show (mT kk).size ≤ _; omega, ⟨by show _ ≤ ((kk + 1 : Nat) : Int); omega, by show ((kk + 1 : Nat) : Int) ≤ _; omega⟩, by have := mT_size (kk + 2); unfold maxLen; show (mT (kk + 2)).size ≤ _; omega,
                by rw [World.cell?_setCell_other _ _ _ _ (fun e => by have := congrArg Addr.off e; simp at this)]; exact bel_cellM hb3 hbV hVa.1,
                by rw [World.cell?_setCell_other _ _ _ _ (fun e => by have := congrArg Addr.off e; simp at this)]; exact bel_cellM hb3 hbV hVa.2,
                World.cell?_setCell_same _ _ _ q2⟩
          have hO3 := (hO1.bel hb3).set (b := b) (by simp) (off + j * 3 + 2) (.string (mT (kk + 2)))
          have hfr3 : ∀ x, (w3.setCell ⟨b, off + j * 3 + 2, none⟩ (.string (mT (kk + 2)))).frozen? ⟨b, x, none⟩ = false := fun x => by rw [World.frozen?_setCell]; exact fr3 x
          have hb3l := bel_lt hb3 hbV
          have fr3c := fr3 (off + j * 3 + 2)
          generalize (upto j (fun i => mkTest (k + 3 * i)) (fun i => l.getD i ⟨⟨#[]⟩, 0, ⟨#[]⟩⟩) j).v = vv at q2
          clear hstep hO hO1 hb1 hb3 c0 c1 c2 g0 g1 hVa hVo hVf hVs HV HV2
          go_wp2
          go_roundw
          case rel => exact ⟨j + 1, by omega, by go_num, by rw [HK.out]; go_num, HF1.out, hfr3, hO3⟩
          case measure => simp [intOf]; omega
        · have e : n = j := by omega
          subst e
          have HS : Hid (Tests wr (some ⟨b, off, none⟩) (mkTests k l) (b :: (List.range l.length).flatMap f)) := by
            rw [Hn.out]
            exact Sl.fam hF (Nat.lt_of_lt_of_le hb hO.size) (by rw [mkTests_len]; exact Hn.out) (fun i hi => by
              rw [mkTests_len, Hn.out] at hi
              simp [upto, mkTests, hi])
          have HO : Hid (Onl (b :: (List.range l.length).flatMap f) w wr) := hO.mono (fun x hx => by simp at hx; simp [hx])
          have HR : Hid (∀ x ∈ b :: (List.range l.length).flatMap f, ∀ j, wr.frozen? ⟨x, j, none⟩ = false) := fun x hx j => by
            rcases List.mem_cons.1 hx with rfl | hx
            · exact hfr j
            · obtain ⟨i, hi, hx⟩ := List.mem_flatMap.1 hx
              rw [hfe i (by rw [← Hn.out]; exact List.mem_range.1 hi)] at hx
              exact nomatch hx
          clear hF hO
          go_wp2
          go_ret
          exact ⟨rfl, HS.out, HR.out, HO.out⟩

set_option maxRecDepth 100000 in
set_option maxHeartbeats 2000000 in
theorem heldTestS_any (a : Option Addr) (n c : Nat) (l : List TestD) (bs : List Nat) (k : Nat) (w : World) (hT : Tests w a (mkTests k l) bs) (hn : l.length = n) (hm : n ≤ 1048576) (h0k : 0 < k) (hk : k ≤ 1125899906842624) :
    Calls Try.prog 116 #[.slice a n c, .int .i64 k] w fun e w' => e = .returned (.int .i64 ((k + 3 * n : Nat) : Int)) ∧ Bel w w' := by
  have Hn : Hid (l.length = n) := hn
  clear hn
  go_enter Try.func116, Try.ntmps116
  go_wp2
  go_loopw [1, 5] (fun t i wr => ∃ j : Nat, j ≤ n ∧ i = .int .i64 j ∧ t = .int .i64 ((k + 3 * j : Nat) : Int) ∧ Bel w wr) (fun _ i _ => n - (intOf i).toNat)
  case atStart => exact ⟨0, Nat.zero_le _, rfl, by simp, Bel.refl _⟩
  case round =>
    obtain ⟨j, hj, rfl, rfl, hbel⟩ := hrel
    by_cases hlt : j < n
    · have hjl : j < (mkTests k l).length := by rw [mkTests_len, Hn.out]; exact hlt
      obtain ⟨b, off, f, rfl, hb, hx⟩ := (hT.bel testE hbel).out hjl
      have hj0 := hx j hjl
      rw [show (mkTests k l)[j] = mkTest (k + 3 * j) by simp [mkTests]] at hj0
      obtain ⟨_, _, _, _, e0, e1, e2⟩ := hj0
      obtain ⟨kk, hkk⟩ : ∃ kk, k + 3 * j = kk := ⟨_, rfl⟩
      have HK : Hid (k + 3 * (j + 1) = kk + 3) := (by omega : k + 3 * (j + 1) = kk + 3)
      rw [hkk] at e0 e1 e2 ⊢
      have hk1 : 0 < kk := by omega
      have hk2 : kk ≤ 1125903052570000 := by omega
      clear hkk
      obtain ⟨s, Hs⟩ : ∃ s, Hid (mT kk = s) := ⟨_, (rfl : mT kk = _)⟩
      obtain ⟨t, Ht⟩ : ∃ s, Hid (mT (kk + 2) = s) := ⟨_, (rfl : mT (kk + 2) = _)⟩
      have c0 : wr.cell? ⟨b, off + j * 3, none⟩ = some (.string s) := by rw [← Hs.out]; exact e0
      have c1 : wr.cell? ⟨b, off + j * 3 + 1, none⟩ = some (.int .i64 ((kk : Int) + 1)) := e1
      have c2 : wr.cell? ⟨b, off + j * 3 + 2, none⟩ = some (.string t) := by rw [← Ht.out]; exact e2
      have hlt' : (j : Int) < (n : Int) := by omega
      have hR : ∀ w', Bel wr w' → w'.cell? ⟨b, off + j * 3, none⟩ = some (.string s) ∧ w'.cell? ⟨b, off + j * 3 + 1, none⟩ = some (.int .i64 ((kk : Int) + 1)) ∧ w'.cell? ⟨b, off + j * 3 + 2, none⟩ = some (.string t) := fun w' h => ⟨bel_cellM h hb c0, bel_cellM h hb c1, bel_cellM h hb c2⟩
      have HKN : Hid ((kk : Int) + 1 + 1 = ((kk + 2 : Nat) : Int)) := (by omega : (kk : Int) + 1 + 1 = ((kk + 2 : Nat) : Int))
      have g0 : Bel wr wr := Bel.refl _
      clear hx hT c0 c1 c2 e0 e1 e2 hb
      go_wp2
      go_region_held3 (fun w' => Bel wr w') (with_reducible (repeat (first | assumption | exact g0 | refine Bel.drew ?_ | refine bel_then (by assumption) ?_)))
        (first
          | (go_at_call 115; refine (markText_any kk _ hk1 (by omega)).mono ?_; rintro e w1 ⟨rfl, hb1⟩; rw [Hs.out]))
      have h1 : Bel wr w1 := by assumption
      clear hb1
      have hc1 := (hR w1 h1).2.1
      go_wp2
      go_region_held3 (fun w' => Bel wr w') (with_reducible (repeat (first | assumption | exact g0 | refine Bel.drew ?_ | refine bel_then (by assumption) ?_)))
        (first
          | (go_at_call 115; rw [HKN.out]; refine (markText_any (kk + 2) _ (by omega) (by omega)).mono ?_; rintro e w2 ⟨rfl, hb2⟩; rw [Ht.out]))
      have h2 : Bel wr w2 := by assumption
      clear hb2
      go_wp2
      go_roundw
      case rel => exact ⟨j + 1, by omega, by go_num, by rw [HK.out]; go_num, bel_step hbel h2⟩
      case measure => simp [intOf]; omega
    · have e : n = j := by omega
      subst e
      clear hT
      go_wp2
      go_ret
      exact ⟨rfl, hbel⟩
end Go.Proofs.Ytbebgfhblalghaa
