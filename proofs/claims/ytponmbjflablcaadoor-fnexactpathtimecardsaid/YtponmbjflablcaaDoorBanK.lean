/-
  A set of bans (a map with a struct as key): what is asked, what is put: contracts.
-/
import Derived.Test.YtponmbjflablcaaDoorGrowC
import Derived.Test.YtponmbjflablcaaDoorGphM
import Derived.WideKeyEntry
import Derived.DeepKeys5
import Derived.Deep.DeepCutAuto
namespace Go.Proofs.YtponmbjflablcaaDoor
open Go.RowKit Go.Maps Go.WideElems

/-- A ban as a key, and as a key's bytes. -/
def bnV (c r : Int) : Value := .agg #[.int .i64 c, .int .i64 r]
def bnL (c r : Int) : Lit := .string (keyBytes [.int .i64 c, .int .i64 r])
theorem bn_laid : laidOutB Tryd.prog = true := by kernel_rfl
theorem bn_cells : Tryd.prog.cellsOf 73 = 2 := by kernel_rfl
theorem bn_one : Tryd.prog.cellsOf 2 = 1 := by kernel_rfl
theorem bn_keyType : Tryd.prog.keyType 73 = true := by kernel_rfl
theorem bn_wide : (match Tryd.prog.underlying 73 with | some (.array _ _) | some (.struct _) => true | _ => false) = true := by rw [Tryd.underlying73]
set_option maxRecDepth 100000 in
theorem lawBK : WideMaps.KeyLaw Tryd.prog 73 := deep_law_laid bn_laid (m := 2) (by omega) (of_decide_eq_true (by kernel_rfl)) (by kernel_rfl) bn_wide
theorem lawB : Keyed Tryd.prog 73 := Keyed.of_law lawBK
theorem typesB_succ : ∃ m, Tryd.prog.types.size = m + 1 := ⟨Tryd.prog.types.size - 1, by have : 0 < Tryd.prog.types.size := of_decide_eq_true (by kernel_rfl); omega⟩
theorem keyB {c r : Int} (hc : In64 c) (hr : In64 r) : keyOf Tryd.prog 73 (bnV c r) = some (bnL c r) := by
  obtain ⟨m, hm⟩ := typesB_succ
  unfold keyOf bnV
  simp only [Tryd.underlying73]
  rw [if_pos (by simp [bn_keyType, Value.formed, Tryd.underlying73, bn_cells]), hm]
  unfold Program.keyLits
  simp only [Tryd.underlying73, Value.cells]
  rw [if_pos (by rw [bn_cells]; simp)]
  simp [bn_one, Program.keyLits, Tryd.underlying2, wf_in hc, wf_in hr, bnL]
theorem bnL_key (c r : Int) : WideAt.IsKeyLit (bnL c r) := trivial
theorem bnL_ne {c r c' r' : Int} (hc : In64 c) (hr : In64 r) (hc' : In64 c') (hr' : In64 r') (h : ¬ (c = c' ∧ r = r')) : bnL c r ≠ bnL c' r' := fun e => h (by
  have h2 := keyB hc' hr'
  rw [← e] at h2
  have := lawB.inj (keyB hc hr) h2
  simp [bnV] at this
  exact this)

/-- A set of bans; n: at most so many. -/
def BSet (w : World) (b n : Nat) (s : Int → Int → Prop) : Prop :=
  ∃ D : DataW Unit, w.ownsMap Tryd.prog 73 unitElem b n D ∧ ∀ f t, In64 f → In64 t → Maps.has D (bnL f t) = bP (s f t)
theorem BSet.new (w : World) : BSet (w.alloc (.map #[] 0)) w.heap.size 0 (fun _ _ => False) :=
  ⟨.map [], World.ownsMap_made w _ _ _, fun _ _ _ _ => (bP_false fun h => h).symm⟩
theorem BSet.bel {w w' : World} {b n : Nat} {s : Int → Int → Prop} (h : BSet w b n s) (hb : Bel w w') : BSet w' b n s := by
  obtain ⟨D, h1, h2⟩ := h
  exact ⟨D, ownsMap_bel h1 hb, h2⟩
theorem BSet.lt {w : World} {b n : Nat} {s : Int → Int → Prop} (h : BSet w b n s) : b < w.heap.size := by
  obtain ⟨D, h1, _⟩ := h; exact h1.lt
theorem BSet.kept {w w' : World} {b n : Nat} {s : Int → Int → Prop} {row : Option Nat} (h : BSet w b n s) (hg : w.grownBy w' row) (hne : some b ≠ row) : BSet w' b n s := by
  obtain ⟨D, h1, h2⟩ := h
  exact ⟨D, h1.kept hg hne, h2⟩
theorem BSet.size {w : World} {b n : Nat} {s : Int → Int → Prop} (h : BSet w b n s) : ∃ es clock, w.heap[b]? = some (.map es clock) ∧ es.size ≤ n := by
  obtain ⟨D, ⟨es, clock, h1, _, h3, _⟩, _⟩ := h
  exact ⟨es, clock, h1, h3⟩
theorem bs_under : Tryd.prog.underlying 63 = some (.map (Tryd.prog.mapKeyOf 63) (Tryd.prog.mapElemOf 63)) := by kernel_rfl
theorem BSet.lens {w : World} {b n : Nat} {s : Int → Int → Prop} (h : BSet w b n s) : ∃ k : Nat, k ≤ n ∧ ∀ ty, (Builtin.len_ #[63] ty #[.map (some b)]).run Tryd.prog w = .ok (.int .i64 k) w := by
  obtain ⟨es, clock, h1, h2⟩ := h.size
  exact ⟨es.size, h2, fun ty => run_len_map _ _ ty b es clock bs_under h1⟩
theorem zeroUb (w : World) : (zeroValue 138).run Tryd.prog w = .ok (.agg #[]) w := by kernel_rfl
theorem BSet.look {w : World} {b n : Nat} {s : Int → Int → Prop} (h : BSet w b n s) {f t : Int} (hf : In64 f) (ht : In64 t) :
    (Instr.lookup 63 (.map (some b)) (.agg #[.int .i64 f, .int .i64 t]) true).run Tryd.prog w = .ok (.tuple #[.agg #[], .bool (bP (s f t))]) w := by
  obtain ⟨D, h1, h2⟩ := h
  obtain ⟨v, ps, hrun, hv⟩ := h1.look_ok lawB Tryd.underlying63 (zeroUb w) unitElem_mk (keyB hf ht)
  obtain ⟨rfl, _⟩ := unitElem_inv hv
  rw [← h2 f t hf ht]
  exact hrun
theorem BSet.put {w : World} {b n : Nat} {s : Int → Int → Prop} (h : BSet w b n s) (hn : n < maxLen) {f t : Int} (hf : In64 f) (ht : In64 t) :
    ∃ w', (Instr.mapUpdate 63 (.map (some b)) (.agg #[.int .i64 f, .int .i64 t]) (.agg #[])).run Tryd.prog w = .ok () w' ∧ BSet w' b (n + 1) (fun f' t' => (f' = f ∧ t' = t) ∨ s f' t') ∧ w.grownBy w' (some b) := by
  obtain ⟨D, h1, h2⟩ := h
  obtain ⟨w', hrun, ho, hg⟩ := h1.update lawB Tryd.underlying63 hn (keyB hf ht) unitElem_mk
  refine ⟨w', hrun, ⟨_, ho, fun f' t' hf' ht' => ?_⟩, hg⟩
  by_cases e : f' = f ∧ t' = t
  · obtain ⟨rfl, rfl⟩ := e
    rw [has_put_same h1.isMap (bnL_key _ _)]
    exact (bP_true (.inl ⟨rfl, rfl⟩)).symm
  · rw [has_put_other (bnL_ne hf' ht' hf ht e), h2 f' t' hf' ht']
    by_cases hs : s f' t'
    · rw [bP_true hs, bP_true (.inr hs)]
    · rw [bP_false hs, bP_false (fun h => h.elim e hs)]

set_option maxRecDepth 100000 in
theorem bhas_any (b n : Nat) (s : Int → Int → Prop) (f t : Int) (w : World) (hS : BSet w b n s) (hf : In64 f) (ht : In64 t) :
    Calls Tryd.prog 70 #[.map (some b), .agg #[.int .i64 f, .int .i64 t]] w fun e w' => e = .returned (.bool (bP (s f t))) ∧ Bel w w' := by
  have hB := fun o => bel_alloc (bel_alloc (Bel.refl w) (.cells #[.int .i64 f, .int .i64 t] 73)) o
  have hl := (hS.bel (bel_alloc (Bel.refl w) (.cells #[.int .i64 f, .int .i64 t] 73))).look hf ht
  clear hS
  go_enter Tryd.func70, Tryd.ntmps70
  go_wp2
  go_ret
  exact ⟨rfl, hB _⟩

/-- The bans of a list. -/
def inL (l : List BanD) (f t : Int) : Prop := ∃ d ∈ l, d.fr = f ∧ d.to = t
set_option maxRecDepth 100000 in
set_option maxHeartbeats 1000000 in
theorem put_few (b n : Nat) (s : Int → Int → Prop) (a : Option Addr) (m c : Nat) (l : List BanD) (bs : List Nat) (w : World) (hS : BSet w b n s) (hI : BanL w a l bs) (hl : l.length = m) (hnm : n + m ≤ 2001) (hb : b ∉ bs) :
    Calls Tryd.prog 85 #[.map (some b), .slice a m c] w fun e w' => e = .returned (.tuple #[]) ∧ BSet w' b (n + m) (fun f t => inL l f t ∨ s f t) ∧ w.grownBy w' (some b) := by
  have Hl : Hid (l.length = m) := hl
  clear hl
  go_enter Tryd.func85, Tryd.ntmps85
  go_wp2
  go_loopw [5, 8] (fun _ i wr => ∃ k : Nat, k ≤ m ∧ i = .int .i64 k ∧ BSet wr b (n + k) (fun f t => inL (l.take k) f t ∨ s f t) ∧ w.grownBy wr (some b)) (fun _ i _ => m - (intOf i).toNat)
  case atStart => exact ⟨0, Nat.zero_le _, rfl, by have e : (fun f t => inL (l.take 0) f t ∨ s f t) = s := by (funext f t; simp [inL])
                                                   rw [e]; simpa using hS, World.grownBy.refl _ _⟩
  case round =>
    obtain ⟨k, hk, rfl, hSk, hgr⟩ := hrel
    by_cases hlt : k < m
    · have hkl : k < l.length := by rw [Hl.out]; exact hlt
      obtain ⟨b', off, f, rfl, hb', hx⟩ := (hI.grown banE hgr hb).out hkl
      obtain ⟨_, i0, i1, z0, z1⟩ := hx k hkl
      obtain ⟨d, Hd⟩ : ∃ d, Hid (d = l[k]) := ⟨_, (rfl : l[k] = _)⟩
      rw [← Hd.out] at z0 z1 i0 i1
      obtain ⟨V, HV⟩ : ∃ V, Hid (V = wr.alloc (.cells #[.int .i64 d.fr, .int .i64 d.to] 73)) := ⟨_, (rfl : wr.alloc (.cells #[.int .i64 d.fr, .int .i64 d.to] 73) = _)⟩
      have hbV : Bel wr V := by rw [HV.out]; exact bel_alloc (Bel.refl _) _
      have XV : Blk V wr.heap.size [.int .i64 d.fr, .int .i64 d.to] := by rw [HV.out]; exact Blk.new wr [.int .i64 d.fr, .int .i64 d.to] _
      have v0 : V.cell? ⟨wr.heap.size, 0, none⟩ = some (.int .i64 d.fr) := XV.cell 0 (by simp)
      have v1 : V.cell? ⟨wr.heap.size, 1, none⟩ = some (.int .i64 d.to) := XV.cell 1 (by simp)
      have vl := XV.lt
      have hSV := hSk.bel hbV
      obtain ⟨ln, hsz, hlen⟩ := hSV.lens
      have hsz' : (ln : Int) ≤ 2000 := by omega
      obtain ⟨w1, hput, hS1, hg1⟩ := hSV.put (by unfold maxLen; omega) i0 i1
      have HS1 : Hid (BSet w1 b (n + (k + 1)) (fun f t => inL (l.take (k + 1)) f t ∨ s f t)) := by
        have e : (fun f' t' => (f' = d.fr ∧ t' = d.to) ∨ (inL (l.take k) f' t' ∨ s f' t')) = (fun f t => inL (l.take (k + 1)) f t ∨ s f t) := by
          funext f' t'
          rw [List.take_succ_eq_append_getElem hkl]
          simp only [inL, List.mem_append, List.mem_singleton, ← Hd.out, eq_iff_iff]
          constructor
          · rintro (⟨h1, h2⟩ | ⟨x, hx, h⟩ | h)
            · exact .inl ⟨d, .inr rfl, h1.symm, h2.symm⟩
            · exact .inl ⟨x, .inl hx, h⟩
            · exact .inr h
          · rintro (⟨x, hx | hx, h1, h2⟩ | h)
            · exact .inr (.inl ⟨x, hx, h1, h2⟩)
            · subst hx; exact .inl ⟨h1.symm, h2.symm⟩
            · exact .inr (.inr h)
        rw [e] at hS1
        exact hS1
      have hG1 := (grown_step hgr hbV).trans hg1
      clear hx hI hSk hS hS1 hgr hsz hSV XV i0 i1
      go_upto_region 3 with fail
      rw [← HV.out]
      clear z0 z1 hb'
      go_wp2
      go_roundw
      case rel => exact ⟨k + 1, by omega, by go_num, HS1.out, hG1⟩
      case measure => simp [intOf]; omega
    · have e : k = m := by omega
      subst e
      have HS1 : Hid (BSet wr b (n + k) (fun f t => inL l f t ∨ s f t)) := by
        rw [List.take_of_length_le (by rw [Hl.out]; exact Nat.le_refl _)] at hSk
        exact hSk
      clear hSk
      go_wp2
      go_end0
      exact ⟨rfl, HS1.out, hgr⟩
end Go.Proofs.YtponmbjflablcaaDoor
