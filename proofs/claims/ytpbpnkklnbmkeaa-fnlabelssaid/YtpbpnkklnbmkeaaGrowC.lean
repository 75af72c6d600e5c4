/-
  Worlds that are alike but for one block; a set that is added to: contract.
-/
import Derived.Test.YtpbpnkklnbmkeaaKeyC
import Derived.Deep.LoopGhost
import Derived.OwnWalk
import Derived.Maps.AppendAt
import Derived.Maps.Range
namespace Go.Proofs.Ytpbpnkklnbmkeaa
open Go.RowKit Go.Maps

theorem grown_of_bel {w w' : World} (h : Bel w w') (row : Option Nat) : w.grownBy w' row := ⟨h.out.os, h.out.tape, h.out.output, h.out.size, fun i hi _ => h.out.block i hi⟩
theorem bel_grow {w a b : World} {row : Option Nat} (h : Bel w a) (g : a.grownBy b row) (hr : ∀ k, row = some k → w.heap.size ≤ k) : Bel w b := Below.grown h g h.out.size hr
theorem grown_step {w a b : World} {row : Option Nat} (h : w.grownBy a row) (k : Bel a b) : w.grownBy b row := h.trans (grown_of_bel k row)
theorem grown_set {w a : World} {C : Nat} (h : w.grownBy a (some C)) (o : Nat) (v : Value) : w.grownBy (a.setCell ⟨C, o, none⟩ v) (some C) :=
  h.trans ⟨rfl, rfl, rfl, by simp [World.setCell], fun i _ hi => Below.heap_setCell a ⟨C, o, none⟩ v i (fun e => hi (by rw [e]))⟩
theorem grown_alike {w w' : World} {C : Nat} (h : w.grownBy w' (some C)) {bs : List Nat} (hs : ∀ x ∈ bs, x < w.heap.size) (hC : C ∉ bs) : Alike w w' bs := by
  intro b hb
  have e : w'.heap[b]? = w.heap[b]? := h.block b (hs b hb) (fun e => hC (by injection e with e; exact e ▸ hb))
  exact ⟨Nat.lt_of_lt_of_le (hs b hb) h.size, fun o => World.cell?_of_block (a := ⟨b, o, none⟩) e, fun o => World.frozen?_of_block (a := ⟨b, o, none⟩) e⟩
theorem Sl.grown {α : Type} {q : Nat} {E : Elem α} (hE : Stays q E) {w w' : World} {C : Nat} {a : Option Addr} {l : List α} {bs : List Nat} (h : Sl q E w a l bs) (hg : w.grownBy w' (some C)) (hC : C ∉ bs) : Sl q E w' a l bs :=
  h.alike hE (grown_alike hg (h.lt hE) hC)
theorem Blk.grown {w w' : World} {C B : Nat} {vs : List Value} (h : Blk w B vs) (hg : w.grownBy w' (some C)) (hne : B ≠ C) : Blk w' B vs := by
  have e : w'.heap[B]? = w.heap[B]? := hg.block B h.lt (fun e => hne (by injection e))
  exact ⟨Nat.lt_of_lt_of_le h.lt hg.size, fun j hj => (World.cell?_of_block (a := ⟨B, j, none⟩) e).trans (h.cell j hj), fun j => (World.frozen?_of_block (a := ⟨B, j, none⟩) e).trans (h.free j)⟩
theorem MapAt.grown {w w' : World} {C b n : Nat} {g : Int → Option Int} (h : MapAt w b n g) (hg : w.grownBy w' (some C)) (hne : b ≠ C) : MapAt w' b n g := by
  obtain ⟨D, h1, h2⟩ := h
  exact ⟨D, h1.kept hg (fun e => hne (by injection e)), h2⟩

set_option maxRecDepth 100000 in
set_option maxHeartbeats 1000000 in
theorem add_any (b n : Nat) (s : Int → Prop) (a : Option Addr) (m c : Nat) (l : List Int) (bs : List Nat) (w : World) (hS : SetAt w b n s) (hI : Ints w a l bs) (hl : l.length = m) (hm : m ≤ 1048576) (hnm : n ≤ 16777216) (hb : b ∉ bs) :
    Calls Try.prog 31 #[.map (some b), .slice a m c] w fun e w' => e = .returned (.tuple #[]) ∧ SetAt w' b (n + m) (fun y => y ∈ l ∨ s y) ∧ w.grownBy w' (some b) := by
  have Hl : Hid (l.length = m) := hl
  clear hl
  go_enter Try.func31, Try.ntmps31
  go_wp2
  go_loopw [5, 8] (fun _ i wr => ∃ k : Nat, k ≤ m ∧ i = .int .i64 k ∧ SetAt wr b (n + k) (fun y => y ∈ l.take k ∨ s y) ∧ w.grownBy wr (some b)) (fun _ i _ => m - (intOf i).toNat)
  case atStart => exact ⟨0, Nat.zero_le _, rfl, by simpa using hS, World.grownBy.refl _ _⟩
  case round =>
    obtain ⟨k, hk, rfl, hSk, hgr⟩ := hrel
    by_cases hlt : k < m
    · have hkl : k < l.length := by rw [Hl.out]; exact hlt
      obtain ⟨b', off, f, rfl, hb', hx⟩ := (hI.grown intE hgr hb).out hkl
      obtain ⟨_, ix, cx⟩ := hx k hkl
      simp only [Nat.mul_one] at cx
      obtain ⟨x, Hx⟩ : ∃ x, Hid (x = l[k]) := ⟨_, (rfl : l[k] = _)⟩
      rw [← Hx.out] at cx ix
      obtain ⟨w1, hput, hS1, hg1⟩ := hSk.put (by unfold maxLen; omega) ix
      have HS1 : Hid (SetAt w1 b (n + (k + 1)) (fun y => y ∈ l.take (k + 1) ∨ s y)) := by
        have e : (fun y => y = x ∨ (y ∈ l.take k ∨ s y)) = (fun y => y ∈ l.take (k + 1) ∨ s y) := by
          funext y
          rw [List.take_succ_eq_append_getElem hkl]
          simp only [List.mem_append, List.mem_singleton, ← Hx.out, eq_iff_iff]
          constructor
          · rintro (h | h | h)
            · exact .inl (.inr h)
            · exact .inl (.inl h)
            · exact .inr h
          · rintro ((h | h) | h)
            · exact .inr (.inl h)
            · exact .inl h
            · exact .inr (.inr h)
        rw [e] at hS1
        exact hS1
      have hG1 := hgr.trans hg1
      clear hx hI hSk hS hS1 hgr
      go_wp2
      go_roundw
      case rel => exact ⟨k + 1, by omega, by go_num, HS1.out, hG1⟩
      case measure => simp [intOf]; omega
    · have e : k = m := by omega
      subst e
      have HS1 : Hid (SetAt wr b (n + k) (fun y => y ∈ l ∨ s y)) := by
        rw [List.take_of_length_le (by rw [Hl.out]; exact Nat.le_refl _)] at hSk
        exact hSk
      clear hSk
      go_wp2
      go_end0
      exact ⟨rfl, HS1.out, hgr⟩
end Go.Proofs.Ytpbpnkklnbmkeaa
