/-
  Rules made ready to be asked, and asked, in the program: contracts.
-/
import Derived.Test.YtbebgfhblalghaaStyI
namespace Go.Proofs.Ytbebgfhblalghaa
open Go.RowKit Go.Maps

/-- A rule as a value. -/
abbrev rulV (r : RuleD) (a : Option Addr) (n c : Nat) : Value := .agg #[.int .i64 r.low, .int .i64 r.high, .slice a n c, .bool r.hide, .string r.col, .int .i64 r.wd, .int .i64 r.lay]
/-- The cells of a rule. -/
def rulL (r : RuleD) (a : Option Addr) (n c : Nat) : List Value := [.int .i64 r.low, .int .i64 r.high, .slice a n c, .bool r.hide, .string r.col, .int .i64 r.wd, .int .i64 r.lay]
/-- A rule made ready: where it lies, where its checks are told. -/
abbrev apV (R C : Nat) : Value := .func (.func 170) #[] #[.pointer (some ⟨R, 0, none⟩), .pointer (some ⟨C, 0, none⟩)]
def ApP (w : World) (R C : Nat) (r : RuleD) (cs : List Nat) : Prop :=
  R < w.heap.size ∧ C < w.heap.size ∧ w.cell? ⟨R, 0, none⟩ = some (.int .i64 r.low) ∧ w.cell? ⟨R, 1, none⟩ = some (.int .i64 r.high) ∧ ∃ va vc, r.tests.length ≤ 1048576 ∧ w.cell? ⟨C, 0, none⟩ = some (.slice va r.tests.length vc) ∧ Sl 1 ChkE w va r.tests cs
theorem ApP.alike {w w' : World} {R C : Nat} {r : RuleD} {cs : List Nat} (h : ApP w R C r cs) (hA : Alike w w' (R :: C :: cs)) : ApP w' R C r cs := by
  obtain ⟨h1, h2, h3, h4, va, vc, h5, h6, h7⟩ := h
  have a1 := hA R (by simp)
  have a2 := hA C (by simp)
  exact ⟨a1.1, a2.1, (a1.2.1 0).trans h3, (a1.2.1 1).trans h4, va, vc, h5, (a2.2.1 0).trans h6, h7.alike chkE (hA.sub fun x hx => by simp [hx])⟩
theorem ApP.lt {w : World} {R C : Nat} {r : RuleD} {cs : List Nat} (h : ApP w R C r cs) : ∀ x ∈ R :: C :: cs, x < w.heap.size := by
  obtain ⟨h1, h2, _, _, _, _, _, _, h7⟩ := h
  intro x hx
  rcases List.mem_cons.1 hx with rfl | hx
  · exact h1
  · rcases List.mem_cons.1 hx with rfl | hx
    · exact h2
    · exact h7.lt chkE x hx
theorem ApP.bel {w w' : World} {R C : Nat} {r : RuleD} {cs : List Nat} (h : ApP w R C r cs) (hb : Bel w w') : ApP w' R C r cs := h.alike (Alike.bel hb h.lt)

set_option maxHeartbeats 1000000 in
theorem applierOf_any (r : RuleD) (a : Option Addr) (n c : Nat) (bs : List Nat) (w : World) (hT : Tests w a r.tests bs) (hn : r.tests.length = n) (hm : n ≤ 1048576) :
    Calls Try.prog 108 #[rulV r a n c] w fun e w' => ∃ R C cs, e = .returned (apV R C) ∧ ApP w' R C r cs ∧ Fresh w w' (R :: C :: cs) ∧ Bel w w' := by
  have Hn : Hid (r.tests.length = n) := hn
  clear hn
  obtain ⟨W, HW⟩ : ∃ W, Hid (W = w.alloc (.cells #[.int .i64 r.low, .int .i64 r.high, .slice a n c, .bool r.hide, .string r.col, .int .i64 r.wd, .int .i64 r.lay] 68)) := ⟨_, (rfl : w.alloc (.cells #[.int .i64 r.low, .int .i64 r.high, .slice a n c, .bool r.hide, .string r.col, .int .i64 r.wd, .int .i64 r.lay] 68) = _)⟩
  have hBW : Bel w W := by rw [HW.out]; exact bel_alloc (Bel.refl _) _
  have XW : Blk W w.heap.size (rulL r a n c) := by rw [HW.out]; exact Blk.new w (rulL r a n c) _
  have hsW : W.heap.size = w.heap.size + 1 := by rw [HW.out]; simp
  go_enter Try.func108, Try.ntmps108
  go_wp2_with fail
  rw [← HW.out]
  refine (eachK_any _ _ _ r.tests bs _ (hT.bel testE hBW) Hn.out hm).mono ?_
  rintro e w1 ⟨va, vc, cs, rfl, S1, F1, hb1⟩
  have X1 := XW.bel hb1
  have HE : Hid (∃ R C cs', Ending.returned (apV w.heap.size w1.heap.size) = .returned (apV R C) ∧ ApP (w1.alloc (.cells #[.slice va n vc] 240)) R C r cs' ∧ Fresh w (w1.alloc (.cells #[.slice va n vc] 240)) (R :: C :: cs') ∧ Bel w (w1.alloc (.cells #[.slice va n vc] 240))) := by
    have hba : Bel w1 (w1.alloc (.cells #[.slice va n vc] 240)) := bel_alloc (Bel.refl _) _
    have Xa := X1.bel hba
    have Ya : Blk (w1.alloc (.cells #[.slice va n vc] 240)) w1.heap.size [.slice va n vc] := Blk.new w1 [.slice va n vc] _
    refine ⟨w.heap.size, w1.heap.size, cs, rfl, ⟨Xa.lt, Ya.lt, Xa.cell 0 (by simp [rulL]), Xa.cell 1 (by simp [rulL]), va, vc, by rw [Hn.out]; exact hm, by rw [Hn.out]; exact Ya.cell 0 (by simp), S1.bel chkE hba⟩, ⟨?_, ?_, ?_⟩, bel_step hBW (bel_step hb1 hba)⟩
    · have n1 : w.heap.size ∉ cs := fun h => by have := (F1.new _ h).1; omega
      have n2 : w1.heap.size ∉ cs := fun h => by have := (F1.new _ h).2; omega
      have n3 : ¬ w.heap.size = w1.heap.size := by have := hb1.out.size; omega
      refine List.nodup_cons.2 ⟨?_, List.nodup_cons.2 ⟨n2, F1.nd⟩⟩
      simp only [List.mem_cons, not_or]
      exact ⟨n3, n1⟩
    · intro b hb
      have hs1 := hb1.out.size
      have hs2 := hba.out.size
      rcases List.mem_cons.1 hb with rfl | hb
      · exact ⟨Nat.le_refl _, Xa.lt⟩
      · rcases List.mem_cons.1 hb with rfl | hb
        · exact ⟨by omega, Ya.lt⟩
        · have := F1.new b hb; exact ⟨by omega, by omega⟩
    · intro b hb j
      rcases List.mem_cons.1 hb with rfl | hb
      · exact Xa.free j
      · rcases List.mem_cons.1 hb with rfl | hb
        · exact Ya.free j
        · exact (F1.bel hba).free b hb j
  clear S1 F1 X1 XW hT
  go_wp2
  go_ret
  exact HE.out

set_option maxHeartbeats 1000000 in
theorem apply_any (R C : Nat) (r : RuleD) (cs : List Nat) (a : Option Addr) (n c : Nat) (l : List TagD) (bs : List Nat) (z : Int) (w : World) (hA : ApP w R C r cs) (hT : Tags w a l bs) (hn : l.length = n) (hm : n ≤ 1048576) :
    Calls Try.prog 170 #[.slice a n c, .int .i64 z, .pointer (some ⟨R, 0, none⟩), .pointer (some ⟨C, 0, none⟩)] w fun e w' => e = .returned (.bool (appB r l z)) ∧ Bel w w' := by
  have hba : Bel w (w.alloc (.cells #[.slice a n c] 70)) := bel_alloc (Bel.refl _) _
  have Y : Blk (w.alloc (.cells #[.slice a n c] 70)) w.heap.size [.slice a n c] := Blk.new w [.slice a n c] _
  have hTa := hT.bel tagE hba
  obtain ⟨h1, h2, h3, h4, va, vc, h5, h6, h7⟩ := hA.bel hba
  have e3 := hA.2.2.1
  have e4 := hA.2.2.2.1
  have l1 := hA.1
  have l2 := hA.2.1
  obtain ⟨q, Hq⟩ : ∃ q, Hid (r.tests.all (tstB l) = q) := ⟨_, (rfl : r.tests.all (tstB l) = _)⟩
  have cA := allK_any va r.tests.length vc r.tests cs w.heap.size a n c l bs _ h7 rfl h5 Y.lt (Y.cell 0 (by simp)) hTa hn hm
  rw [Hq.out] at cA
  by_cases k1 : r.low ≤ z
  · by_cases k2 : z ≤ r.high
    · have HF : Hid (q = appB r l z) := (by rw [← Hq.out]; simp [appB, k1, k2] : q = appB r l z)
      clear hT hTa h7 Y hA
      go_enter Try.func170, Try.ntmps170
      go_wp2_with fail
      refine cA.mono ?_
      rintro e w1 ⟨rfl, hb1⟩
      have hB1 := bel_step hba hb1
      clear cA h3 h4 h6
      go_wp2
      go_ret
      exact ⟨ret_bl HF.out, hB1⟩
    · have HF : Hid (false = appB r l z) := (by simp [appB, k2] : false = appB r l z)
      clear hT hTa h7 Y hA cA
      go_enter Try.func170, Try.ntmps170
      go_wp2
      go_ret
      exact ⟨ret_bl HF.out, hba⟩
  · have HF : Hid (false = appB r l z) := (by simp [appB, k1] : false = appB r l z)
    clear hT hTa h7 Y hA cA
    go_enter Try.func170, Try.ntmps170
    go_wp2
    go_ret
    exact ⟨ret_bl HF.out, hba⟩

set_option maxHeartbeats 1000000 in
theorem applies_any (r : RuleD) (a : Option Addr) (n c : Nat) (bs : List Nat) (at_ : Option Addr) (nt ct : Nat) (l : List TagD) (bt : List Nat) (z : Int) (w : World) (hR : Tests w a r.tests bs) (hn : r.tests.length = n) (hm : n ≤ 1048576) (hT : Tags w at_ l bt) (hnt : l.length = nt) (hmt : nt ≤ 1048576) :
    Calls Try.prog 47 #[rulV r a n c, .slice at_ nt ct, .int .i64 z] w fun e w' => e = .returned (.bool (appB r l z)) ∧ Bel w w' := by
  have hba : Bel w (w.alloc (.cells #[.int .i64 r.low, .int .i64 r.high, .slice a n c, .bool r.hide, .string r.col, .int .i64 r.wd, .int .i64 r.lay] 68)) := bel_alloc (Bel.refl _) _
  go_enter Try.func47, Try.ntmps47
  go_wp2_with fail
  refine (applierOf_any r _ _ _ bs _ (hR.bel testE hba) hn hm).mono ?_
  rintro e w1 ⟨R, C, cs, rfl, A1, _, hb1⟩
  have hB1 := bel_step hba hb1
  go_wp2_with fail
  refine (apply_any R C r cs _ _ _ l bt z _ A1 (hT.bel tagE hB1) hnt hmt).mono ?_
  rintro e w2 ⟨rfl, hb2⟩
  have hB2 := bel_step hB1 hb2
  clear A1 hb1 hb2
  go_wp2
  go_ret
  exact ⟨rfl, hB2⟩
end Go.Proofs.Ytbebgfhblalghaa
