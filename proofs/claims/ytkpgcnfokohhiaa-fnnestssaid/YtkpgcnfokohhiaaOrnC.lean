/-
  Rings turned to their sides: the model as data; copies of rows, rows turned round: contracts.
-/
import Derived.Test.YtkpgcnfokohhiaaTwoC
import Derived.Test.YtkpgcnfokohhiaaRngM
import Derived.Test.YtkpgcnfokohhiaaRevC
import Derived.Test.YtkpgcnfokohhiaaFlat
import Derived.Deep.AppendLies
import Derived.Deep.DeepCutAuto
namespace Go.Proofs.Ytkpgcnfokohhiaa
open Go.RowKit Go.Maps

/-- Twice a ring's area, as the row tells it. -/
def twL (l : List PtD) : Int := twS (lx l) (ly l) (l.length - 1)
/-- The row goes the wrong way. -/
def wrong (d : RingD) : Bool := (decide (0 < twL d.row) && d.inner) || (decide (twL d.row < 0) && !d.inner)
def ornR (d : RingD) : RingD := ⟨if wrong d then d.row.reverse else d.row, d.inner⟩
theorem ornR_len (d : RingD) : (ornR d).row.length = d.row.length := by unfold ornR; split <;> simp
/-- Orient as both tell it. -/
def ornQ (l : List RingD) : List RingD := if rgsB l then l.map ornR else []

def PtP (d : PtD) : Prop := In64 d.x ∧ In64 d.y
def ptCs (d : PtD) : List Value := [.int .i64 d.x, .int .i64 d.y]
theorem ptF : Flat 2 PtE PtP ptCs :=
  ⟨fun _ => rfl, fun _ u hu => by simp only [ptCs, List.mem_cons, List.not_mem_nil, or_false] at hu; rcases hu with rfl | rfl <;> rfl,
    fun ⟨_, h1, h2, h3, h4⟩ => ⟨⟨h1, h2⟩, fun j hj => by match j, hj with | 0, _ => exact h3 | 1, _ => exact h4⟩,
    fun hp hc => ⟨rfl, hp.1, hp.2, hc 0 (by simp [ptCs]), hc 1 (by simp [ptCs])⟩⟩
theorem infoCPt : (Try.prog.info? 26).map (fun i => (i.zero, i.size, i.bytes)) = some (some (.agg #[.int .i64 0, .int .i64 0]), 2, 16) := by kernel_rfl
set_option maxHeartbeats 1000000 in
theorem freshPt_any (a : Option Addr) (n c : Nat) (l : List PtD) (bs : List Nat) (W0 w : World) (h0W : Bel W0 w) (hT : PtL w a l bs) (hn : l.length = n) (hm : n ≤ 1048576) :
    Calls Try.prog 36 #[.slice a n c] w fun e w' => ∃ a' c' bs', e = .returned (.slice a' n c') ∧ PtL w' a' l bs' ∧ Fresh W0 w' bs' ∧ Bel w w' := by
  obtain ⟨i0, hi0, hz0, hz1, hz2⟩ := info_parts infoCPt
  have hown0 : w.ownsRow w.heap.size 26 2 (.slice none 0 0) 0 [] := World.ownsRow_nil _ _ _ _
  go_enter Try.func36, Try.ntmps36
  go_wp2_with (first
    | (at_builtin; refine wpList_append_flat ptF (by decide) rfl _ _ 30 rfl w.heap.size 26 i0 (.agg #[.int .i64 0, .int .i64 0]) 16 Try.underlying30 hi0 hz0 hz1 hz2 rfl _ rfl hown0 a n c l bs rfl hT hn hm (by decide) (Nat.le_refl _) ?_)
    | go_in)
  intro a' c' bs' w3 HS HM hgrow
  have hB : Bel w w3 := bel_grow (Bel.refl _) hgrow (fun j e => by cases e)
  clear hgrow
  go_wp2
  go_ret
  exact ⟨_, _, bs', rfl, HS, HM.fresh h0W.out.size, hB⟩

theorem hatO {v : Value} {g n c H : Nat} (h : v.ownBlock = some g ∨ g = H) : (Value.slice (some ⟨g, 0, none⟩) n c).ownBlock = v.ownBlock ∨ (Value.slice (some ⟨g, 0, none⟩) n c).ownBlock = some H := by
  rcases h with h | h
  · exact .inl h.symm
  · exact .inr (by rw [h]; rfl)

/-- The last k points, from the last on. -/
def rvT (l : List PtD) (k : Nat) : List PtD := l.reverse.take k
theorem rvT_len {l : List PtD} {k : Nat} (h : k ≤ l.length) : (rvT l k).length = k := by unfold rvT; rw [List.length_take, List.length_reverse]; omega
theorem rvT_succ {l : List PtD} {k m : Nat} (h : l.length = k + m + 1) (hm : m < l.length) : rvT l (k + 1) = rvT l k ++ [l[m]] := by
  unfold rvT
  have h1 : k < l.reverse.length := by rw [List.length_reverse]; omega
  rw [List.take_succ_eq_append_getElem h1, List.getElem_reverse]
  have e : l.length - 1 - k = m := by omega
  simp [e]
theorem rvT_all (l : List PtD) : rvT l l.length = l.reverse := List.take_of_length_le (by rw [List.length_reverse]; exact Nat.le_refl _)

set_option maxRecDepth 100000 in
set_option maxHeartbeats 2000000 in
theorem l4Turned_any (a : Option Addr) (n c : Nat) (l : List PtD) (bs : List Nat) (w : World) (hT : PtL w a l bs) (hn : l.length = n) (hm : n ≤ 1048576) :
    Calls Try.prog 39 #[.slice a n c] w fun e w' => ∃ a' c' bs', e = .returned (.slice a' n c') ∧ PtL w' a' l.reverse bs' ∧ Fresh w w' bs' ∧ Bel w w' := by
  obtain ⟨i0, hi0, hz0, hz1, hz2⟩ := info_parts infoCPt
  have Hn : Hid (l.length = n) := hn
  obtain ⟨W, HW⟩ : ∃ W, Hid (W = w.alloc (.cells #[] 26)) := ⟨_, (rfl : w.alloc (.cells #[] 26) = _)⟩
  have hBW : Bel w W := by rw [HW.out]; exact bel_alloc (Bel.refl _) _
  have O0 : W.ownsRow w.heap.size 26 2 (.slice (some ⟨w.heap.size, 0, none⟩) 0 0) 0 [] := by rw [HW.out]; exact World.ownsRow_lit w #[] 0 (Nat.le_refl _) (Nat.zero_le _) rfl
  have G0 : Gr 2 (flatV PtP ptCs) 26 w.heap.size W (.slice (some ⟨w.heap.size, 0, none⟩) 0 0) (rvT l 0) (fun _ => List.replicate 2 (.bool false)) (fun _ => []) :=
    ⟨O0, fun _ => by simp, fun i h => absurd h (Nat.not_lt_zero _), fun i h => absurd h (Nat.not_lt_zero _), by simp [rvT]⟩
  clear hn O0
  go_enter Try.func39, Try.ntmps39
  go_wp2
  rw [← HW.out]
  go_loopw [3, 4] (fun o i wr => ∃ (k : Nat) (R : Nat → List Value), k ≤ n ∧ i = .int .i64 ((n : Int) - 1 - k) ∧ Gr 2 (flatV PtP ptCs) 26 w.heap.size wr o (rvT l k) R (fun _ => []) ∧ Bel w wr) (fun _ i _ => (intOf i + 1).toNat)
  case atStart => exact ⟨0, _, Nat.zero_le _, by simp, G0, hBW⟩
  case round =>
    clear G0 hBW HW
    obtain ⟨k, R, hk, rfl, hG, hBr⟩ := hrel
    obtain ⟨va, vc, rfl⟩ := own_shape hG.own
    have HLK : Hid ((rvT l k).length = k) := rvT_len (by rw [Hn.out]; exact hk)
    have HG : Hid (Gr 2 (flatV PtP ptCs) 26 w.heap.size wr (.slice va (rvT l k).length vc) (rvT l k) R (fun _ => [])) := hG
    clear hG
    by_cases hlt : k < n
    · obtain ⟨m, hmn⟩ : ∃ m, n = k + m + 1 := ⟨n - 1 - k, by omega⟩
      have hml : m < l.length := by rw [Hn.out]; omega
      obtain ⟨b, off, f, rfl, hb, hx⟩ := (hT.bel ptE hBr).out hml
      obtain ⟨_, i1, i2, cx, cy⟩ := hx m hml
      have HE : Hid (rvT l (k + 1) = rvT l k ++ [l[m]]) := rvT_succ (by rw [Hn.out]; exact hmn) hml
      obtain ⟨d, Hd⟩ : ∃ d, Hid (l[m] = d) := ⟨_, (rfl : l[m] = _)⟩
      rw [Hd.out] at HE i1 i2 cx cy
      have hj : ((n : Int) - 1 - (k : Int)) = (m : Int) := by omega
      have HJ : Hid ((n : Int) - 1 - ((k + 1 : Nat) : Int) = (m : Int) - 1) := (by omega : (n : Int) - 1 - ((k + 1 : Nat) : Int) = (m : Int) - 1)
      rw [hj]
      have hm0 : (0 : Int) ≤ (m : Int) := by omega
      have hmn' : (m : Int) < (n : Int) := by omega
      have hkn : k < n := hlt
      have hmn2 : m < n := by omega
      have hown2 := World.ownsRow.alloc HG.out.own (.cells #[.int .i64 d.x, .int .i64 d.y] 26)
      have hBa := bel_alloc hBr (.cells #[.int .i64 d.x, .int .i64 d.y] 26)
      clear hx hmn hj hlt
      go_upto_region 5 with fail
      go_wp2_with (first
        | (at_builtin; refine wpList_append_lies _ rfl _ _ 30 rfl w.heap.size 26 i0 (.agg #[.int .i64 0, .int .i64 0]) 2 16 Try.underlying30 hi0 hz0 hz1 hz2 rfl (by decide) _ _ _ rfl hown2 ⟨wr.heap.size, 0, none⟩ 1 1 [.int .i64 d.x, .int .i64 d.y] rfl rfl ?c1 ?c2 (by decide) ?c3 ?c4 ?c5 (wr.heap.size + 1) ?c6 ?_)
        | go_in)
      case c1 =>
        intro j u hj
        match j, hj with
        | 0, hj => simp at hj; subst hj; simp [Addr.add]
        | 1, hj => simp at hj; subst hj; simp [Addr.add]
      case c2 =>
        intro u hu
        simp at hu
        rcases hu with rfl | rfl <;> rfl
      case c3 => have := HLK.out; unfold maxLen; omega
      case c4 => have := HLK.out; omega
      case c5 => have := hBr.out.size; simp; omega
      case c6 => simp
      intro g cap w3 hown' hgrow hat _
      have HG3 : Hid (∃ R', Gr 2 (flatV PtP ptCs) 26 w.heap.size w3 (.slice (some ⟨g, 0, none⟩) ((rvT l k).length + 1) cap) (rvT l (k + 1)) R' (fun _ => [])) := by
        have hat' : (Value.slice va (rvT l k).length vc).ownBlock = some g ∨ g = (wr.alloc (.cells #[.int .i64 d.x, .int .i64 d.y] 26)).heap.size := by simpa using hat
        have := Gr.add ptF.stays HG.out (Bel.refl wr) (bel_alloc (Bel.refl wr) (.cells #[.int .i64 d.x, .int .i64 d.y] 26)) (vs := [.int .i64 d.x, .int .i64 d.y]) (d := d) (bs := []) (show flatV PtP ptCs wr [.int .i64 d.x, .int .i64 d.y] d [] from ⟨rfl, ⟨i1, i2⟩, rfl⟩) (Fresh.nil wr wr) hBr.out.size hown' hgrow (hatO hat')
        rw [HE.out]
        have e : updF (fun _ : Nat => ([] : List Nat)) (rvT l k).length [] = fun _ => [] := by funext i; unfold updF; split <;> rfl
        rw [e] at this
        exact ⟨_, this⟩
      have hB3 : Bel w w3 := bel_grow hBa hgrow (fun j e => (hown2.lt j e).1)
      clear hown' hgrow hown2 hBa HG hat
      go_wp2
      go_roundw
      case rel =>
        obtain ⟨R', G'⟩ := HG3.out
        exact ⟨k + 1, R', by omega, by rw [HJ.out], G', hB3⟩
      case measure => simp [intOf]; try omega
    · have e : n = k := by omega
      subst e
      have HO := Gr.out ptF.stays HG.out
      have HT : Hid (rvT l n = l.reverse) := by rw [← Hn.out]; exact rvT_all l
      rw [HLK.out]
      obtain ⟨a', c', bs', e', hS, hM⟩ := HO
      rw [HLK.out] at e'
      obtain ⟨rfl, rfl⟩ : va = a' ∧ vc = c' := by simpa using e'
      have HS : Hid (PtL wr va l.reverse bs') := by rw [← HT.out]; exact hS
      have hneg : ¬ (0 : Int) ≤ (n : Int) - 1 - (n : Int) := by omega
      clear hS e' HG
      go_wp2
      go_ret
      exact ⟨va, ⟨vc, rfl⟩, bs', HS.out, hM.fresh (Nat.le_refl _), hBr⟩
end Go.Proofs.Ytkpgcnfokohhiaa
