/-
  Rows of plain elements that are being built: one element more.
-/
import Derived.Test.YtpbpnkklnbmkeaaFlat
namespace Go.Proofs.Ytpbpnkklnbmkeaa
open Go.RowKit Go.Maps

theorem Gr.addF {α : Type} {q : Nat} {E : Elem α} {P : α → Prop} {cs : α → List Value} (hF : Flat q E P cs) {T : TypeId} {lo : Nat} {w0 w2 w3 : World} {v v' : Value} {l : List α} {R : Nat → List Value} {d : α} (h : Gr q (flatV P cs) T lo w0 v l R (fun _ => []))
    (h02 : Bel w0 w2) (hp : P d) (hlo : lo ≤ w0.heap.size) (ho : w3.ownsRow lo T q v' (l.length + 1) (recs R l.length ++ cs d)) (hg : w2.grownBy w3 v.ownBlock) (hat : v'.ownBlock = v.ownBlock ∨ v'.ownBlock = some w2.heap.size) :
    ∃ R', Gr q (flatV P cs) T lo w3 v' (l ++ [d]) R' (fun _ => []) := by
  have := Gr.add hF.stays h (Bel.refl w0) h02 (vs := cs d) (d := d) (bs := []) (show flatV P cs w0 (cs d) d [] from ⟨rfl, hp, rfl⟩) (Fresh.nil w0 w0) hlo ho hg hat
  have e : updF (fun _ : Nat => ([] : List Nat)) l.length [] = fun _ => [] := by funext i; unfold updF; split <;> rfl
  rw [e] at this
  exact ⟨_, this⟩
theorem hatF {v : Value} {g n c H : Nat} (h : v.ownBlock = some g ∨ g = H) : (Value.slice (some ⟨g, 0, none⟩) n c).ownBlock = v.ownBlock ∨ (Value.slice (some ⟨g, 0, none⟩) n c).ownBlock = some H := by
  rcases h with h | h
  · exact .inl h.symm
  · exact .inr (by rw [h]; rfl)
end Go.Proofs.Ytpbpnkklnbmkeaa
