/-
  Tags and Parts, marked: contracts.
-/
import Derived.Test.YtiagdabikbjbiaaMarkT
namespace Go.Proofs.Ytiagdabikbjbiaa
open Go.RowKit Go.Maps

theorem mtx_size (k : Nat) : ∀ out : ByteArray, (mtx k out).size ≤ out.size + k := by
  induction k using Nat.strongRecOn with
  | ind k ih =>
    intro out
    by_cases h : 0 < k
    · rw [mtx_step h]
      have := ih (k / 10) (by omega) (digT (48 + (k : Int) % 10) ++ out)
      rw [ByteArray.size_append, digT_size] at this
      omega
    · obtain rfl : k = 0 := by omega
      rw [mtx_zero]; omega
theorem mT_size (k : Nat) : (mT k).size ≤ k + 1 := by
  unfold mT
  rw [ByteArray.size_append]
  have := mtx_size k ⟨#[]⟩
  have e : (ByteArray.mk #[]).size = 0 := rfl
  have e' : (ByteArray.mk #[109]).size = 1 := rfl
  omega

theorem pair_out {w w1 w3 : World} {b p o : Nat} {u v : Value} (hb : b < w.heap.size) (h1 : Bel w w1) (h3 : Bel (w1.setCell ⟨b, p, none⟩ u) w3) (ho : o < p ∨ p + 2 ≤ o) :
    (w3.setCell ⟨b, p + 1, none⟩ v).cell? ⟨b, o, none⟩ = w.cell? ⟨b, o, none⟩ := by
  have hb2 : b < (w1.setCell ⟨b, p, none⟩ u).heap.size := by simpa [World.setCell] using bel_lt h1 hb
  rw [World.cell?_setCell_other _ _ _ _ (fun e => by have := congrArg Addr.off e; simp at this; omega), h3.out.cell (p := ⟨b, o, none⟩) hb2,
    World.cell?_setCell_other _ _ _ _ (fun e => by have := congrArg Addr.off e; simp at this; omega), h1.out.cell (p := ⟨b, o, none⟩) hb]
theorem pair_fst {w w1 w3 : World} {b p : Nat} {u v x : Value} (hb : b < w.heap.size) (h1 : Bel w w1) (h3 : Bel (w1.setCell ⟨b, p, none⟩ u) w3) (hx : w.cell? ⟨b, p, none⟩ = some x) :
    (w3.setCell ⟨b, p + 1, none⟩ v).cell? ⟨b, p, none⟩ = some u := by
  have hb2 : b < (w1.setCell ⟨b, p, none⟩ u).heap.size := by simpa [World.setCell] using bel_lt h1 hb
  rw [World.cell?_setCell_other _ _ _ _ (fun e => by have := congrArg Addr.off e; simp at this), h3.out.cell (p := ⟨b, p, none⟩) hb2]
  exact World.cell?_setCell_same _ _ _ (bel_cellM h1 hb hx)
theorem pair_mid {w w1 w3 : World} {b p : Nat} {u x : Value} (hb : b < w.heap.size) (h1 : Bel w w1) (h3 : Bel (w1.setCell ⟨b, p, none⟩ u) w3) (hx : w.cell? ⟨b, p + 1, none⟩ = some x) : w3.cell? ⟨b, p + 1, none⟩ = some x := by
  have hb2 : b < (w1.setCell ⟨b, p, none⟩ u).heap.size := by simpa [World.setCell] using bel_lt h1 hb
  refine bel_cellM h3 hb2 ?_
  rw [World.cell?_setCell_other _ _ _ _ (fun e => by have := congrArg Addr.off e; simp at this)]
  exact bel_cellM h1 hb hx

/-- A marked tag, a marked part. -/
def mkTag (k : Nat) : TagD := ⟨mT k, mT (k + 1)⟩
def mkPart (k : Nat) : PartD := ⟨(k : Int), ((k : Int) + 1) % 3 == 0⟩
def mkTags (k : Nat) (l : List TagD) : List TagD := (List.range l.length).map fun i => mkTag (k + 2 * i)
def mkParts (k : Nat) (l : List PartD) : List PartD := (List.range l.length).map fun i => mkPart (k + 2 * i)
theorem mkTags_len (k : Nat) (l : List TagD) : (mkTags k l).length = l.length := by simp [mkTags]
theorem mkParts_len (k : Nat) (l : List PartD) : (mkParts k l).length = l.length := by simp [mkParts]


end Go.Proofs.Ytiagdabikbjbiaa
