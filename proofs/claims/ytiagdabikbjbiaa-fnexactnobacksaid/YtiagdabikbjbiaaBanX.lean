/-
  The set of bans, exactly: which, and how many: what is asked, put: contracts.
-/
import Derived.Test.YtiagdabikbjbiaaXD
import Derived.Maps.OwnSet
namespace Go.Proofs.Ytiagdabikbjbiaa
open Go.RowKit Go.Maps Go.WideElems

theorem addB_in {l : List BanD} {b : BanD} (hS : SrtB l) (h : b ∈ l) : addB l b = l :=
  srt_eq _ _ (addB_srt l b hS) hS fun y => by
    rw [addB_mem]
    exact ⟨fun h' => h'.elim (fun e => by rw [e]; exact h) id, .inr⟩
theorem addB_out : ∀ {l : List BanD} {b : BanD}, b ∉ l → (addB l b).length = l.length + 1
  | [], _, _ => rfl
  | x :: r, b, h => by
    unfold addB
    split
    · simp only [List.length_cons]; rw [addB_out fun hh => h (by simp [hh])]
    · split
      · simp
      · rename_i h1 h2
        have e : x = b := (banLt_tri x b).elim (fun h => absurd h h1) fun h => h.elim (fun h => h) fun h => absurd h h2
        exact absurd (by rw [e]; simp) h
theorem inL_iff {l : List BanD} {f t : Int} : inL l f t ↔ (⟨f, t⟩ : BanD) ∈ l := by
  unfold inL
  constructor
  · rintro ⟨d, hd, h1, h2⟩
    have e : d = ⟨f, t⟩ := ban_ext h1 h2
    rw [← e]; exact hd
  · intro h; exact ⟨_, h, rfl, rfl⟩

/-- A set of bans, as a sorted list. -/
def BX (w : World) (b : Nat) (l : List BanD) : Prop :=
  ∃ D : DataW Unit, w.ownsMap Try.prog 75 unitElem b l.length D ∧ Maps.size D = l.length ∧ (∀ f t, In64 f → In64 t → Maps.has D (bnL f t) = bP (inL l f t)) ∧ SrtB l ∧ ∀ d ∈ l, In64 d.fr ∧ In64 d.to
theorem own_exact {w : World} {b n : Nat} {D : DataW Unit} (h : w.ownsMap Try.prog 75 unitElem b n D) : w.ownsMap Try.prog 75 unitElem b (Maps.size D) D := by
  obtain ⟨es, clock, hb, F, _, rfl⟩ := h
  exact ⟨es, clock, hb, F, by simp [Maps.size, length_sorted], rfl⟩
theorem BX.of {w : World} {M : Nat} (h : w.heap[M]? = some (.map #[] 0)) : BX w M [] := by
  obtain ⟨D, h1, h2⟩ := BSet.of h
  exact ⟨D, h1, Nat.le_zero.1 h1.size_le, fun f t hf ht => by rw [h2 f t hf ht, bP_false (fun h => h), bP_false (by rintro ⟨d, hd, _⟩; simp at hd)], fun i j hi => by simp at hi, by simp⟩
theorem BX.bel {w w' : World} {b : Nat} {l : List BanD} (h : BX w b l) (hb : Bel w w') : BX w' b l := by
  obtain ⟨D, h1, h2⟩ := h
  exact ⟨D, ownsMap_bel h1 hb, h2⟩
theorem BX.lt {w : World} {b : Nat} {l : List BanD} (h : BX w b l) : b < w.heap.size := by
  obtain ⟨D, h1, _⟩ := h; exact h1.lt
theorem BX.kept {w w' : World} {b : Nat} {l : List BanD} {row : Option Nat} (h : BX w b l) (hg : w.grownBy w' row) (hne : some b ≠ row) : BX w' b l := by
  obtain ⟨D, h1, h2⟩ := h
  exact ⟨D, h1.kept hg hne, h2⟩
theorem BX.set {w : World} {b : Nat} {l : List BanD} (h : BX w b l) : BSet w b l.length (inL l) := by
  obtain ⟨D, h1, _, h2, _⟩ := h
  exact ⟨D, h1, h2⟩
theorem BX.lens {w : World} {b : Nat} {l : List BanD} (h : BX w b l) (ty : TypeId) : (Builtin.len_ #[57] ty #[.map (some b)]).run Try.prog w = .ok (.int .i64 (l.length : Nat)) w := by
  obtain ⟨D, h1, h2, _⟩ := h
  rw [← h2]
  exact h1.len Try.underlying57 ty
theorem BX.put {w : World} {b : Nat} {l : List BanD} (h : BX w b l) (hn : l.length < maxLen) {d : BanD} (hf : In64 d.fr) (ht : In64 d.to) :
    ∃ w', (Instr.mapUpdate 57 (.map (some b)) (.agg #[.int .i64 d.fr, .int .i64 d.to]) (.agg #[])).run Try.prog w = .ok () w' ∧ BX w' b (addB l d) ∧ w.grownBy w' (some b) := by
  obtain ⟨D, h1, h2, h3, h4, h5⟩ := h
  obtain ⟨w', hrun, ho, hg⟩ := h1.update lawB Try.underlying57 hn (keyB hf ht) unitElem_mk
  have hz := size_put (k := bnL d.fr d.to) (h1.tidy lawB) (.agg [] : DataW Unit)
  rw [h3 _ _ hf ht] at hz
  have hsz : Maps.size (D.put (bnL d.fr d.to) (.agg [])) = (addB l d).length := by
    rw [hz, h2]
    by_cases hin : d ∈ l
    · rw [bP_true (inL_iff.2 hin), addB_in h4 hin]; rfl
    · rw [bP_false (fun hh => hin (inL_iff.1 hh)), addB_out hin]; rfl
  have ho' := own_exact ho
  refine ⟨w', hrun, ⟨_, ?_, hsz, fun f' t' hf' ht' => ?_, addB_srt l d h4, fun y hy => ?_⟩, hg⟩
  · rw [← hsz]; exact ho'
  · by_cases e : f' = d.fr ∧ t' = d.to
    · obtain ⟨rfl, rfl⟩ := e
      rw [has_put_same h1.isMap (bnL_key _ _)]
      exact (bP_true (inL_iff.2 ((addB_mem l d _).2 (.inl rfl)))).symm
    · rw [has_put_other (bnL_ne hf' ht' hf ht e), h3 f' t' hf' ht']
      have e' : (⟨f', t'⟩ : BanD) ≠ d := fun h => e (by rw [← h]; exact ⟨rfl, rfl⟩)
      by_cases hs : inL l f' t'
      · rw [bP_true hs, bP_true (inL_iff.2 ((addB_mem l d _).2 (.inr (inL_iff.1 hs))))]
      · rw [bP_false hs, bP_false (fun h => ((addB_mem l d _).1 (inL_iff.1 h)).elim e' (fun h => hs (inL_iff.2 h)))]
  · rcases (addB_mem l d y).1 hy with rfl | hy
    · exact ⟨hf, ht⟩
    · exact h5 y hy
/-- One more, while they are not too many. -/
def capB (l : List BanD) (b : BanD) : List BanD := if l.length ≤ 2000 then addB l b else l
theorem capB_yes {l : List BanD} {b : BanD} (h : l.length ≤ 2000) : capB l b = addB l b := if_pos h
theorem capB_no {l : List BanD} {b : BanD} (h : ¬ l.length ≤ 2000) : capB l b = l := if_neg h
theorem capB_len {l : List BanD} {b : BanD} (h : l.length ≤ 2001) : (capB l b).length ≤ 2001 := by
  unfold capB
  split
  · exact Nat.le_trans (addB_len l b) (by omega)
  · exact h

set_option maxRecDepth 100000 in
set_option maxHeartbeats 1000000 in
theorem putX_any (b : Nat) (l0 : List BanD) (a : Option Addr) (m c : Nat) (l : List BanD) (bs : List Nat) (w : World) (hS : BX w b l0) (h0 : l0.length ≤ 2001) (hI : BanL w a l bs) (hl : l.length = m) (hm : m ≤ 1048576) (hb : b ∉ bs) :
    Calls Try.prog 46 #[.map (some b), .slice a m c] w fun e w' => e = .returned (.tuple #[]) ∧ BX w' b (l.foldl capB l0) ∧ (l.foldl capB l0).length ≤ 2001 ∧ w.grownBy w' (some b) := by
  have Hl : Hid (l.length = m) := hl
  clear hl
  go_enter Try.func46, Try.ntmps46
  go_wp2
  go_loopw [5, 8] (fun _ i wr => ∃ k : Nat, k ≤ m ∧ i = .int .i64 k ∧ BX wr b ((l.take k).foldl capB l0) ∧ ((l.take k).foldl capB l0).length ≤ 2001 ∧ w.grownBy wr (some b)) (fun _ i _ => m - (intOf i).toNat)
  case atStart => exact ⟨0, Nat.zero_le _, rfl, hS, h0, World.grownBy.refl _ _⟩
  case round =>
    obtain ⟨k, hk, rfl, hSk, hLk, hgr⟩ := hrel
    by_cases hlt : k < m
    · have hkl : k < l.length := by rw [Hl.out]; exact hlt
      obtain ⟨b', off, f, rfl, hb', hx⟩ := (hI.grown banE hgr hb).out hkl
      obtain ⟨_, i0, i1, z0, z1⟩ := hx k hkl
      obtain ⟨d, Hd⟩ : ∃ d, Hid (d = l[k]) := ⟨_, (rfl : l[k] = _)⟩
      rw [← Hd.out] at z0 z1 i0 i1
      obtain ⟨L, HL⟩ : ∃ L, Hid (L = (l.take k).foldl capB l0) := ⟨_, (rfl : (l.take k).foldl capB l0 = _)⟩
      have HN : Hid ((l.take (k + 1)).foldl capB l0 = capB L d) := show (l.take (k + 1)).foldl capB l0 = capB L d by
        rw [List.take_succ_eq_append_getElem hkl, List.foldl_append, HL.out, Hd.out]; rfl
      rw [← HL.out] at hSk hLk
      obtain ⟨V, HV⟩ : ∃ V, Hid (V = wr.alloc (.cells #[.int .i64 d.fr, .int .i64 d.to] 75)) := ⟨_, (rfl : wr.alloc (.cells #[.int .i64 d.fr, .int .i64 d.to] 75) = _)⟩
      have hbV : Bel wr V := by rw [HV.out]; exact bel_alloc (Bel.refl _) _
      have XV : Blk V wr.heap.size [.int .i64 d.fr, .int .i64 d.to] := by rw [HV.out]; exact Blk.new wr [.int .i64 d.fr, .int .i64 d.to] _
      have v0 : V.cell? ⟨wr.heap.size, 0, none⟩ = some (.int .i64 d.fr) := XV.cell 0 (by simp)
      have v1 : V.cell? ⟨wr.heap.size, 1, none⟩ = some (.int .i64 d.to) := XV.cell 1 (by simp)
      have vl := XV.lt
      have hSV := hSk.bel hbV
      have hlen := hSV.lens
      obtain ⟨ln, Hln⟩ : ∃ ln, Hid (L.length = ln) := ⟨_, (rfl : L.length = _)⟩
      rw [Hln.out] at hlen
      by_cases hc : (ln : Int) ≤ 2000
      · have hLl : L.length ≤ 2000 := by rw [Hln.out]; omega
        obtain ⟨w1, hput, hS1, hg1⟩ := hSV.put (by unfold maxLen; omega) i0 i1
        have HS1 : Hid (BX w1 b ((l.take (k + 1)).foldl capB l0)) := by rw [HN.out, capB_yes hLl]; exact hS1
        have HL1 : Hid (((l.take (k + 1)).foldl capB l0).length ≤ 2001) := by rw [HN.out]; exact capB_len hLk
        have hG1 := (grown_step hgr hbV).trans hg1
        clear hx hI hSk hS hS1 hgr hSV XV i0 i1 hLl hLk h0
        go_upto_region 3 with fail
        rw [← HV.out]
        clear z0 z1 hb'
        go_wp2
        go_roundw
        case rel => exact ⟨k + 1, by omega, by go_num, HS1.out, HL1.out, hG1⟩
        case measure => simp [intOf]; omega
      · have hLl : ¬ L.length ≤ 2000 := by rw [Hln.out]; omega
        have HS1 : Hid (BX V b ((l.take (k + 1)).foldl capB l0)) := by rw [HN.out, capB_no hLl]; exact hSV
        have HL1 : Hid (((l.take (k + 1)).foldl capB l0).length ≤ 2001) := by rw [HN.out]; exact capB_len hLk
        have hG1 := grown_step hgr hbV
        clear hx hI hSk hS hgr hSV XV i0 i1 hLl hLk h0
        go_upto_region 3 with fail
        rw [← HV.out]
        clear z0 z1 hb'
        go_wp2
        go_roundw
        case rel => exact ⟨k + 1, by omega, by go_num, HS1.out, HL1.out, hG1⟩
        case measure => simp [intOf]; omega
    · have e : k = m := by omega
      subst e
      have e' : l.take k = l := List.take_of_length_le (by rw [Hl.out]; exact Nat.le_refl _)
      rw [e'] at hSk hLk
      have HS1 : Hid (BX wr b (l.foldl capB l0)) := hSk
      have HL1 : Hid ((l.foldl capB l0).length ≤ 2001) := hLk
      clear hSk hLk h0 hS hI
      go_wp2
      go_end0
      exact ⟨rfl, HS1.out, HL1.out, hgr⟩
end Go.Proofs.Ytiagdabikbjbiaa
