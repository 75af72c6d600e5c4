/-
  The keys of a set of bans, told in some order: contracts of maps.Keys, slices.Collect at bans.
-/
import Derived.Test.YtiagdabikbjbiaaBanX
import Derived.Test.YtiagdabikbjbiaaXC
import Derived.Shelf.SlIter.Collect
import Derived.RangeFuncSeq
import Derived.RangeFuncGives
import Derived.Sort.MapsRangeIn
import Derived.Sort.KeysCollected
import Derived.Maps.AppendAt
import Derived.OwnWalkIn
import Derived.TacticsInMore
import Derived.LoopNIn
import Derived.LoopIn
namespace Go.Proofs.Ytiagdabikbjbiaa
open Go.RowKit Go.Maps Go.WideElems Go.Sort Go.Shelf

def banV (d : BanD) : Value := bnV d.fr d.to
def GoodB (d : BanD) : Prop := In64 d.fr ∧ In64 d.to
theorem key1_inv {d : Nat} {v : Value} {ls : List Lit} (h : Try.prog.keyLits (d + 1) 2 [v] = some ls) : ∃ x, v = .int .i64 x ∧ In64 x ∧ ls = [.int .i64 x] := by
  unfold Program.keyLits at h
  simp only [Try.underlying2] at h
  cases v <;> simp at h
  rename_i q x
  obtain ⟨⟨rfl, hw⟩, rfl⟩ := h
  exact ⟨x, rfl, in64_of_wf hw, rfl⟩
set_option maxRecDepth 100000 in
theorem keyB_inv {key : Value} {kl : Lit} (h : keyOf Try.prog 75 key = some kl) : ∃ d : BanD, key = banV d ∧ kl = bnL d.fr d.to ∧ GoodB d := by
  obtain ⟨m, hm⟩ := typesB_succ
  unfold keyOf at h
  simp only [Try.underlying75] at h
  split at h
  · rename_i hc
    rw [hm] at h
    cases key with
    | agg cs =>
      simp [Value.formed, Try.underlying75, bn_cells] at hc
      obtain ⟨_, hsz⟩ := hc
      obtain ⟨a, b, rfl⟩ : ∃ a b, cs = #[a, b] := by
        obtain ⟨l⟩ := cs
        match l, hsz with
        | [a, b], _ => exact ⟨a, b, rfl⟩
      unfold Program.keyLits at h
      simp only [Try.underlying75, Value.cells] at h
      rw [if_pos (by rw [bn_cells]; simp)] at h
      simp only [List.mapM_cons, List.mapM_nil, bn_one, List.drop_zero, List.take_succ_cons, List.take_zero, List.drop_succ_cons] at h
      cases ha : Try.prog.keyLits (m + 1) 2 [a] with
      | none => rw [ha] at h; simp at h
      | some la =>
        cases hb : Try.prog.keyLits (m + 1) 2 [b] with
        | none => rw [ha, hb] at h; simp at h
        | some lb =>
          obtain ⟨x, rfl, hx, rfl⟩ := key1_inv ha
          obtain ⟨y, rfl, hy, rfl⟩ := key1_inv hb
          rw [ha, hb] at h
          simp at h
          exact ⟨⟨x, y⟩, rfl, h.symm, hx, hy⟩
    | _ => simp [Value.formed, Try.underlying75] at hc
  · cases h

/-- What has come so far, and what is to come. -/
def ColB (D : DataW Unit) (left : Lit → Bool) (ss : List BanD) : Prop :=
  ss.Nodup ∧ (∀ x ∈ ss, GoodB x) ∧ ∀ x, GoodB x → (x ∈ ss ↔ (Maps.has D (bnL x.fr x.to) = true ∧ left (bnL x.fr x.to) = false))
theorem same_bnL {x y : BanD} (hx : GoodB x) (hy : GoodB y) (h : y ≠ x) : (bnL y.fr y.to).sameKey (bnL x.fr x.to) = false := by
  have hne := bnL_ne hy.1 hy.2 hx.1 hx.2 (fun e => h (ban_ext e.1 e.2))
  unfold bnL at hne ⊢
  simpa [Lit.sameKey] using hne
theorem self_bnL (x : BanD) : (bnL x.fr x.to).sameKey (bnL x.fr x.to) = true := by unfold bnL; simp [Lit.sameKey]
theorem ColB.start (D : DataW Unit) : ColB D (Maps.has D) [] := ⟨List.nodup_nil, (fun x hx => nomatch hx), fun x _ => by cases Maps.has D (bnL x.fr x.to) <;> simp⟩
theorem ColB.step {D : DataW Unit} {left : Lit → Bool} {ss : List BanD} (h : ColB D left ss) {x : BanD} (hx : GoodB x) {y : DataW Unit} (hlk : left (bnL x.fr x.to) = true) (hat : ∀ zd, D.atKey (bnL x.fr x.to) zd = y) :
    ColB D (fun z => left z && !z.sameKey (bnL x.fr x.to)) (ss ++ [x]) := by
  have hhas : Maps.has D (bnL x.fr x.to) = true := has_true_of_atKey hat
  have hnew : x ∉ ss := fun hm => by have := ((h.2.2 x hx).1 hm).2; rw [hlk] at this; cases this
  refine ⟨List.nodup_append.2 ⟨h.1, by simp, fun a ha b hb => by simp at hb; subst hb; exact fun e => hnew (e ▸ ha)⟩, ?_, fun z hz => ?_⟩
  · intro z hz
    rcases List.mem_append.1 hz with hz | hz
    · exact h.2.1 z hz
    · rw [List.mem_singleton.1 hz]; exact hx
  · by_cases hy : z = x
    · subst hy; simp [hhas, self_bnL]
    · have hs := same_bnL hx hz hy
      rw [List.mem_append, h.2.2 z hz]
      simp [hy, hs]
theorem srt_nodup {l : List BanD} (h : SrtB l) : l.Nodup := by
  refine List.pairwise_iff_getElem.2 fun i j hi hj hij e => ?_
  have hlt := h i j hi hj hij
  rw [e] at hlt
  unfold banLt at hlt
  omega
theorem ColB.perm {l : List BanD} {D : DataW Unit} {left : Lit → Bool} {ss : List BanD} (h : ColB D left ss) (hl : ∀ kl, left kl = false) (h3 : ∀ f t, In64 f → In64 t → Maps.has D (bnL f t) = bP (inL l f t)) (h4 : SrtB l) (h5 : ∀ d ∈ l, In64 d.fr ∧ In64 d.to) : ss.Perm l := by
  refine (List.perm_ext_iff_of_nodup h.1 (srt_nodup h4)).2 fun x => ?_
  constructor
  · intro hx
    have hg := h.2.1 x hx
    have := ((h.2.2 x hg).1 hx).1
    rw [h3 _ _ hg.1 hg.2] at this
    exact inL_iff.1 (by unfold bP at this; exact @of_decide_eq_true _ (Classical.propDecidable _) this)
  · intro hx
    have hg : GoodB x := h5 x hx
    refine (h.2.2 x hg).2 ⟨?_, hl _⟩
    rw [h3 _ _ hg.1 hg.2]
    exact bP_true (inL_iff.2 hx)

set_option maxRecDepth 100000 in
set_option maxHeartbeats 4000000 in
theorem keysB1_in (F : Fence) (n : Nat) (h10 : F.fn 77) (hro : F.round = none) (hn : 1 ≤ n) (l Bm b : Nat) (L : List BanD) (J : List BanD → World → Prop)
    (hY : ∀ pre x W, J pre W → pre.length < L.length → GoodB x → YieldAt F (n - 1) Try.prog l #[banV x] W fun e W' => e = .returned (.bool true) ∧ J (pre ++ [x]) W' ∧ KeepsWalks W W')
    (W : World) (hJ : AbidesFrom W.heap.size J) (hm : W.cell? ⟨Bm, 0, none⟩ = some (.map (some b))) (hX : BX W b L) (h0 : J [] W) :
    CallsIn F n Try.prog 77 #[.func (.yield l) #[] #[], .pointer (some ⟨Bm, 0, none⟩)] W fun e W' => (∃ v, e = .returned v) ∧ ∃ ss : List BanD, ss.Perm L ∧ J ss W' := by
  obtain ⟨D0, hown, hsz, h3, h4, h5⟩ := hX
  refine callsIn_of_wp Try.func77 rfl h10 ?_ hro
  simp only [Try.ntmps77, List.size_toArray, List.length_cons, List.length_nil, Nat.reduceAdd, Nat.reduceSub, Array.replicate_succ, Array.replicate_zero, List.push_toArray, List.append_toArray, List.nil_append, List.cons_append]
  gi_wp2_with (first
    | (gi_at_range; refine wpListIn_range_own _ rfl _ 57 rfl 75 103 lawB Try.underlying57 _ b _ _ rfl hown ?_; intro w0 hrg0 hg0 hs0)
    | gi_in)
  go_frame
  gi_loopw [3] (fun _ wr => ∃ (left : Lit → Bool) (cnt : Nat) (ss : List BanD), wr.ranges Try.prog 75 unitElem b W.heap.size L.length D0 left cnt ∧ ss.length + cnt ≤ L.length ∧ ColB D0 left ss ∧ J ss wr)
    (fun _ wr => wr.rangeLeft b W.heap.size)
  case atStart =>
    exact ⟨_, _, [], hrg0, by rw [hsz]; simp, ColB.start D0, hJ [] W w0 none h0 hg0 (fun r e => by cases e)⟩
  case round =>
    obtain ⟨left, cnt, ss, hrg, hcs, hC, hJs⟩ := hrel
    gi_wp2_with (first
      | (gi_at_next; refine wpListIn_next_ranges _ rfl _ rfl 75 lawB unitElem banV (fun _ : Unit => .agg #[]) (fun key kl hk => by obtain ⟨x, hx, _⟩ := keyB_inv hk; exact ⟨x, hx⟩) (fun v y hv => ⟨(), (unitElem_inv hv).1⟩) b W.heap.size _ _ _ _ rfl hrg ?_ ?_)
      | gi_in)
    · intro hc0 hl0
      gi_wp2
      go_end0
      exact ⟨⟨_, rfl⟩, ss, hC.perm hl0 h3 h4 h5, hJs⟩
    · intro x kl yd yp w2 cnt2 hkey hlk hv hat hrg2 hlt hg2 hs2 hen
      obtain ⟨d, ex, rfl, hgd⟩ := keyB_inv hkey
      obtain rfl : x = d := by unfold banV bnV at ex; simp at ex; exact ban_ext ex.1 ex.2
      have hJ2 : J ss w2 := hJ ss wr w2 (some W.heap.size) hJs hg2 (fun r e => by cases e; exact ⟨Nat.le_refl _, hrg.iter_walk⟩)
      have hJ3 : J ss (w2.alloc (.cells #[.int .i64 x.fr, .int .i64 x.to] 75)) := hJ ss w2 _ none hJ2 (World.grownBy_alloc _ _ _) (fun r e => by cases e)
      obtain ⟨fn, tmps, assign, body, hy, hR⟩ := hY ss x _ hJ3 (by omega) hgd
      have hrg3 := hrg2.of_walks (KeepsWalks.alloc w2 (.cells #[.int .i64 x.fr, .int .i64 x.to] 75))
      unfold banV bnV at hen hy ⊢
      clear hs2
      gi_wp2
      refine hR.mono ?_
      rintro e W3 ⟨rfl, hJ4, hk3⟩
      gi_wp2
      have hrg4 := hrg3.of_walks hk3
      go_roundw
      case rel => exact ⟨_, cnt2, ss ++ [x], hrg4, by rw [List.length_append, List.length_singleton]; omega, hC.step hgd hlk hat, hJ4⟩
      case measure => rw [hrg4.left_eq, hrg.left_eq]; exact hlt
end Go.Proofs.Ytiagdabikbjbiaa
