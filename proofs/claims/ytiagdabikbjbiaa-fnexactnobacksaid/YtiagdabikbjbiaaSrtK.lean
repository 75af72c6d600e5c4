/-
  slices.SortFunc at bans, by the shelf; the keys of a set of bans, sorted: contracts.
-/
import Derived.Test.YtiagdabikbjbiaaKeyT
import Derived.Test.YtiagdabikbjbiaaXC
import Derived.Ground.SlsfProg
import Derived.Shelf.Lay
import Derived.Shelf.SlSortCmp.NoneTotal
namespace Go.Proofs.Ytiagdabikbjbiaa
open Go.RowKit Go.Maps Go.Sort Go.Shelf Go.Lib
shelf_lay_g SlLaysF0.n6 Slsf 6 at Try 76 as Try.sortBn

def bkG (d : BanD) : Prop := In64 d.fr ∧ In64 d.to
theorem bkF : Flat 2 BanE bkG bkC :=
  ⟨fun _ => rfl, fun _ u hu => by simp [bkC] at hu; rcases hu with rfl | rfl <;> rfl,
   fun ⟨_, h1, h2, h3, h4⟩ => ⟨⟨h1, h2⟩, fun j hj => by match j, hj with | 0, _ => exact h3 | 1, _ => exact h4⟩,
   fun ⟨h1, h2⟩ hc => ⟨rfl, h1, h2, hc 0 (by simp [bkC]), hc 1 (by simp [bkC])⟩⟩
theorem recs_bk (l : List BanD) : recs (csL 2 bkC l) l.length = l.flatMap bkC := by
  have key : ∀ k, k ≤ l.length → recs (csL 2 bkC l) k = (l.take k).flatMap bkC := by
    intro k
    induction k with
    | zero => intro _; simp [recs]
    | succ k ih =>
      intro hk
      rw [recs_succ, ih (by omega), csL_at (show k < l.length from hk), List.take_succ_eq_append_getElem (show k < l.length from hk), List.flatMap_append]
      simp
  rw [key _ (Nat.le_refl _), List.take_length]
instance : Inhabited BanD := ⟨⟨0, 0⟩⟩
theorem bk_swo : SWO (ltOf bnz) := by
  have h : ∀ x y, ltOf bnz x y = true ↔ banLt x y := fun x y => by
    unfold ltOf
    rw [decide_eq_true_eq]
    exact bnz_lt
  refine ⟨fun x => ?_, fun x y z => ?_, fun x y z => ?_⟩
  · rw [Bool.eq_false_iff]; intro e; exact banLt_ir ((h x x).1 e)
  · rw [h, h, h]; exact banLt_tr
  · rw [Bool.eq_false_iff, Bool.eq_false_iff, Bool.eq_false_iff]
    rw [ne_eq, ne_eq, ne_eq, h, h, h]
    unfold banLt
    omega
theorem srt_of_sorted {ss L : List BanD} {d' : Array BanD} (hp : ss.Perm L) (hs : SrtB L) (h1 : PermIn 0 ss.toArray.size ss.toArray d') (h2 : SortedIn (ltOf bnz) 0 ss.toArray.size d') : d'.toList = L := by
  obtain ⟨hsz, _, hperm⟩ := h1
  have e1 : d'.extract 0 ss.toArray.size = d' := by rw [← hsz]; exact Array.extract_size
  rw [e1, Array.extract_size] at hperm
  have hpL : d'.toList.Perm L := hperm.trans hp
  refine srt_eq _ _ ?_ hs fun y => hpL.mem_iff
  have hnd : d'.toList.Nodup := hpL.nodup_iff.2 (srt_nodup hs)
  intro i j hi hj hij
  have hi' : i < d'.size := by simpa using hi
  have hj' : j < d'.size := by simpa using hj
  have h := h2 i j (Nat.zero_le _) hij (by omega)
  rw [getElem!_pos d' j hj', getElem!_pos d' i hi'] at h
  unfold ltOf at h
  rw [decide_eq_false_iff_not, bnz_lt] at h
  simp only [Array.getElem_toList]
  rcases banLt_tri d'[i] d'[j] with h' | h' | h'
  · exact h'
  · exact absurd (by simpa using h') (List.pairwise_iff_getElem.1 hnd i j hi hj hij)
  · exact absurd h' h
theorem grown_sortB {α : Type} [Inhabited α] (enc : α → List Value) (k : Nat) (w : World) (b off n : Nat) (d : Array α) (os : Array Obj) : w.grownBy (sortWorldK enc k w b off n d os) (some b) := by
  refine ⟨rfl, rfl, rfl, size_sortWorldK_c enc k w b off n d os, fun i hi hn => ?_⟩
  have hne : b ≠ i := fun e => hn (by rw [e])
  show (((Sort.ahead w n).heap.modify b _) ++ os)[i]? = w.heap[i]?
  rw [Array.getElem?_append_left (by simpa [Sort.ahead] using hi), Array.getElem?_modify, if_neg hne]
  rfl
theorem own_blk {w : World} {base e q n m c x off : Nat} {xs : List Value} (h : w.ownsRow base e q (.slice (some ⟨x, off, none⟩) m c) n xs) : (Value.slice (some ⟨x, off, none⟩) m c).ownBlock = some x := by
  obtain ⟨_, h2⟩ := h
  rcases h2 with ⟨h, _⟩ | ⟨g, cap, cur, e1, _⟩
  · cases h
  · simp [Value.ownBlock]
set_option maxRecDepth 100000 in
set_option maxHeartbeats 2000000 in
theorem sortBans_any (base : Nat) (v : Value) (ss L : List BanD) (w : World) (ho : w.ownsRow base 75 2 v ss.length (ss.flatMap bkC)) (hp : ss.Perm L) (hs : SrtB L) (hg : ∀ d ∈ L, GoodB d) (hl : L.length ≤ 1048576) :
    Calls Try.prog 76 #[v, .func (.func 61) #[] #[]] w fun e w' => e = .returned (.tuple #[]) ∧ (∃ a c bs, v = .slice a L.length c ∧ BanL w' a L bs ∧ Mine base w' bs) ∧ w.grownBy w' v.ownBlock := by
  have hlen := hp.length_eq
  rw [← recs_bk] at ho
  obtain ⟨a, c, bs, rfl, hT, hM⟩ := bkF.out ho (fun i hi => hg _ (hp.mem_iff.1 (List.getElem_mem hi)))
  rcases Nat.eq_zero_or_pos ss.length with hz | hz
  · obtain rfl : ss = [] := List.length_eq_zero_iff.1 hz
    obtain rfl : L = [] := List.length_eq_zero_iff.1 (by omega)
    have hcon := AnyF.slices_SortFunc_none Try.sortBn a c (.func (.func 61) #[] #[]) w
    change Calls Try.prog 76 _ _ _ at hcon
    refine hcon.mono ?_
    rintro e w' ⟨rfl, rfl⟩
    exact ⟨rfl, ⟨a, c, bs, rfl, hT, hM⟩, World.grownBy.refl _ _⟩
  · rcases hT with ⟨h0, _⟩ | ⟨x, off, f, rfl, hxl, rfl, hx⟩
    · rw [h0] at hz; cases hz
    have hxm : x ∈ x :: (List.range ss.length).flatMap f := by simp
    have hH : HoldsK bkC 2 w x off ss.toArray := by
      intro t ht
      refine ⟨?_, hM.free x hxm _⟩
      rw [size_flatK, List.size_toArray] at ht
      have hi : t / 2 < ss.length := by omega
      have h1 := (bkF.get (hx (t / 2) hi)).2 (t % 2) (by rw [bkF.len]; omega)
      rw [get_flatK _ _ _ _ (by rw [List.size_toArray]; exact ht)]
      have e2 : ss.toArray[t / 2]! = ss[t / 2] := by rw [getElem!_pos ss.toArray _ (by rw [List.size_toArray]; exact hi)]; simp
      rw [e2, getElem!_pos (bkC ss[t / 2]) _ (by rw [bkF.len]; omega)]
      rw [show off + t / 2 * 2 + t % 2 = off + t by omega] at h1
      rw [h1]; rfl
    have eg : ∀ args w, (callFunc 61 args).run Try.prog w = .ok (.enter 61 args) w := enters_of Try.func61 (by kernel_rfl) rfl
    have hcmp : CmpLays Try.prog 61 #[] bkC 2 bnz x off ss.toArray.size w := fun k os dk hdk u v => banCmp_any u v _
    have hcon := AnyQ.slices_SortFunc Try.sortBn 2 Try.isAgg75 Try.sizeOf75 bkC (fun _ => rfl) (fun y v hv => bkF.one _ v hv) bnz bk_swo 61 #[] x off c ss.toArray w eg hcmp hH hxl (by rw [List.size_toArray]; omega)
    change Calls Try.prog 76 _ _ _ at hcon
    rw [List.size_toArray] at hcon
    refine hcon.mono ?_
    rintro e w' ⟨rfl, d', k, os, q1, q2, rfl⟩
    have hd : d'.toList = L := srt_of_sorted hp hs (by simpa using q1) (by simpa using q2)
    have hH' := holdsK_sortWorldK_c bkC 2 w x off ss.toArray d' k os hH hxl q1.1
    have hgr := grown_sortB bkC 2 w x off k d' os
    have hob : (Value.slice (some ⟨x, off, none⟩) ss.length c).ownBlock = some x := own_blk ho
    rw [hob]
    refine ⟨rfl, ⟨_, c, [x], by rw [hlen], ?_, ?_⟩, hgr⟩
    · refine .inr ⟨x, off, fun _ => [], rfl, Nat.lt_of_lt_of_le hxl (size_sortWorldK_c _ _ _ _ _ _ _ _), by rw [List.flatMap_eq_nil_iff.2 (fun _ _ => rfl)], fun i hi => ?_⟩
      have hi' : i < d'.size := by rw [← hd] at hi; simpa using hi
      refine bkF.lay (hg _ (List.getElem_mem hi)) fun j hj => ?_
      have h := (hH'.cell (i := i) (c := j) hi' (by rw [bkF.len] at hj; exact hj)).1
      have e2 : d'[i]! = L[i] := by rw [getElem!_pos d' _ hi']; simp [← hd]
      rw [e2, getElem!_pos (bkC L[i]) _ hj] at h
      exact h
    · refine ⟨by simp, fun b hb => ?_, fun b hb j => ?_⟩
      · rw [List.mem_singleton.1 hb]
        exact ⟨(hM.new x hxm).1, Nat.lt_of_lt_of_le hxl (size_sortWorldK_c _ _ _ _ _ _ _ _)⟩
      · rw [List.mem_singleton.1 hb]
        have hf := hM.free x hxm j
        unfold sortWorldK putRowK
        rw [frozen?_grow _ _ _ (by simpa [putRow, mapBlock, Sort.ahead] using hxl), frozen?_putRow]
        exact hf

set_option maxHeartbeats 1000000 in
/-- The bans of a set, told in order. -/
theorem sortedBans_any (Bm b : Nat) (L : List BanD) (hL : L.length ≤ 1048576) (w : World) (hm : w.cell? ⟨Bm, 0, none⟩ = some (.map (some b))) (hBm : Bm < w.heap.size) (hX : BX w b L) :
    Calls Try.prog 59 #[.func (.func 77) #[] #[.pointer (some ⟨Bm, 0, none⟩)], .func (.func 61) #[] #[]] w fun e w' =>
      ∃ a c bs, e = .returned (.slice a L.length c) ∧ BanL w' a L bs ∧ Mine w.heap.size w' bs ∧ Bel w w' := by
  obtain ⟨_, _, _, _, hs, hg⟩ := id hX
  go_enter Try.func59, Try.ntmps59
  go_wp2_with fail
  refine (collectBans_any Bm b L hL _ hm hBm hX).mono ?_
  rintro e w1 ⟨v, ss, rfl, hp, ho, hb⟩
  go_wp2_with fail
  refine (sortBans_any w.heap.size v ss L w1 ho hp hs hg hL).mono ?_
  rintro e w2 ⟨rfl, ⟨a, c, bs, rfl, T, hM⟩, hgr⟩
  have hbb := bel_grow hb hgr (fun k e => (ho.lt k e).1)
  clear ho hgr hp
  go_wp2_with fail
  go_ret
  exact ⟨a, c, bs, rfl, T, hM, hbb⟩
end Go.Proofs.Ytiagdabikbjbiaa
