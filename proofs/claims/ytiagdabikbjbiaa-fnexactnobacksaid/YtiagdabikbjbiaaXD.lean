/-
  A set of bans (a map with a struct as key): what is asked, what is put: contracts.
  Rows of plain elements that are being built: one element more.
  Rows of the call's own beside each other: what stays when one of them grows.
  Two tables of rows of numbers that grow; what a graph's network is made of.
  Rows of numbers of a call's own: how they are built and read.
  Which roads may follow one: plain mathematics.
  Whether a turn is forbidden, and which roads may follow one, in the model: contracts.
  Sorted lists of Bans: one more is put in its place; what is sorted and has the same members is the same: plain mathematics. Roads of a way among some.
  append at a step of a region that draws: of any number, also of none; of a list of plain elements onto an empty row.
-/
import Derived.Test.YtiagdabikbjbiaaXB
import Derived.Test.YtiagdabikbjbiaaXC
import Derived.WideKeyEntry
import Derived.DeepKeys5
import Derived.Deep.DeepCutAuto
import Derived.Test.YtiagdabikbjbiaaFlat
import Derived.Laws.OwnMore
import Derived.Laws.AppendOwnNone
import Derived.Laws.MakeOwn
import Derived.Test.YtiagdabikbjbiaaXA
import Derived.Test.YtiagdabikbjbiaaGphS
import Derived.Deep.QuietTactic
import Derived.Deep.AppendLies
namespace Go.Proofs.Ytiagdabikbjbiaa
open Go.RowKit Go.Maps Go.WideElems

/-- A ban as a key, and as a key's bytes. -/
def bnV (c r : Int) : Value := .agg #[.int .i64 c, .int .i64 r]
def bnL (c r : Int) : Lit := .string (keyBytes [.int .i64 c, .int .i64 r])
theorem bn_laid : laidOutB Try.prog = true := by kernel_rfl
theorem bn_cells : Try.prog.cellsOf 75 = 2 := by kernel_rfl
theorem bn_one : Try.prog.cellsOf 2 = 1 := by kernel_rfl
theorem bn_keyType : Try.prog.keyType 75 = true := by kernel_rfl
theorem bn_wide : (match Try.prog.underlying 75 with | some (.array _ _) | some (.struct _) => true | _ => false) = true := by rw [Try.underlying75]
set_option maxRecDepth 100000 in
theorem lawBK : WideMaps.KeyLaw Try.prog 75 := deep_law_laid bn_laid (m := 2) (by omega) (of_decide_eq_true (by kernel_rfl)) (by kernel_rfl) bn_wide
theorem lawB : Keyed Try.prog 75 := Keyed.of_law lawBK
theorem typesB_succ : ∃ m, Try.prog.types.size = m + 1 := ⟨Try.prog.types.size - 1, by have : 0 < Try.prog.types.size := of_decide_eq_true (by kernel_rfl); omega⟩
theorem keyB {c r : Int} (hc : In64 c) (hr : In64 r) : keyOf Try.prog 75 (bnV c r) = some (bnL c r) := by
  obtain ⟨m, hm⟩ := typesB_succ
  unfold keyOf bnV
  simp only [Try.underlying75]
  rw [if_pos (by simp [bn_keyType, Value.formed, Try.underlying75, bn_cells]), hm]
  unfold Program.keyLits
  simp only [Try.underlying75, Value.cells]
  rw [if_pos (by rw [bn_cells]; simp)]
  simp [bn_one, Program.keyLits, Try.underlying2, wf_in hc, wf_in hr, bnL]
theorem bnL_key (c r : Int) : WideAt.IsKeyLit (bnL c r) := trivial
theorem bnL_ne {c r c' r' : Int} (hc : In64 c) (hr : In64 r) (hc' : In64 c') (hr' : In64 r') (h : ¬ (c = c' ∧ r = r')) : bnL c r ≠ bnL c' r' := fun e => h (by
  have h2 := keyB hc' hr'
  rw [← e] at h2
  have := lawB.inj (keyB hc hr) h2
  simp [bnV] at this
  exact this)

/-- A set of bans; n: at most so many. -/
def BSet (w : World) (b n : Nat) (s : Int → Int → Prop) : Prop :=
  ∃ D : DataW Unit, w.ownsMap Try.prog 75 unitElem b n D ∧ ∀ f t, In64 f → In64 t → Maps.has D (bnL f t) = bP (s f t)
theorem BSet.new (w : World) : BSet (w.alloc (.map #[] 0)) w.heap.size 0 (fun _ _ => False) :=
  ⟨.map [], World.ownsMap_made w _ _ _, fun _ _ _ _ => (bP_false fun h => h).symm⟩
theorem BSet.bel {w w' : World} {b n : Nat} {s : Int → Int → Prop} (h : BSet w b n s) (hb : Bel w w') : BSet w' b n s := by
  obtain ⟨D, h1, h2⟩ := h
  exact ⟨D, ownsMap_bel h1 hb, h2⟩
theorem BSet.lt {w : World} {b n : Nat} {s : Int → Int → Prop} (h : BSet w b n s) : b < w.heap.size := by
  obtain ⟨D, h1, _⟩ := h; exact h1.lt
theorem BSet.kept {w w' : World} {b n : Nat} {s : Int → Int → Prop} {row : Option Nat} (h : BSet w b n s) (hg : w.grownBy w' row) (hne : some b ≠ row) : BSet w' b n s := by
  obtain ⟨D, h1, h2⟩ := h
  exact ⟨D, h1.kept hg hne, h2⟩
theorem BSet.size {w : World} {b n : Nat} {s : Int → Int → Prop} (h : BSet w b n s) : ∃ es clock, w.heap[b]? = some (.map es clock) ∧ es.size ≤ n := by
  obtain ⟨D, ⟨es, clock, h1, _, h3, _⟩, _⟩ := h
  exact ⟨es, clock, h1, h3⟩
theorem bs_under : Try.prog.underlying 57 = some (.map (Try.prog.mapKeyOf 57) (Try.prog.mapElemOf 57)) := by kernel_rfl
theorem BSet.lens {w : World} {b n : Nat} {s : Int → Int → Prop} (h : BSet w b n s) : ∃ k : Nat, k ≤ n ∧ ∀ ty, (Builtin.len_ #[57] ty #[.map (some b)]).run Try.prog w = .ok (.int .i64 k) w := by
  obtain ⟨es, clock, h1, h2⟩ := h.size
  exact ⟨es.size, h2, fun ty => run_len_map _ _ ty b es clock bs_under h1⟩
theorem zeroUb (w : World) : (zeroValue 103).run Try.prog w = .ok (.agg #[]) w := by kernel_rfl
theorem BSet.look {w : World} {b n : Nat} {s : Int → Int → Prop} (h : BSet w b n s) {f t : Int} (hf : In64 f) (ht : In64 t) :
    (Instr.lookup 57 (.map (some b)) (.agg #[.int .i64 f, .int .i64 t]) true).run Try.prog w = .ok (.tuple #[.agg #[], .bool (bP (s f t))]) w := by
  obtain ⟨D, h1, h2⟩ := h
  obtain ⟨v, ps, hrun, hv⟩ := h1.look_ok lawB Try.underlying57 (zeroUb w) unitElem_mk (keyB hf ht)
  obtain ⟨rfl, _⟩ := unitElem_inv hv
  rw [← h2 f t hf ht]
  exact hrun
theorem BSet.put {w : World} {b n : Nat} {s : Int → Int → Prop} (h : BSet w b n s) (hn : n < maxLen) {f t : Int} (hf : In64 f) (ht : In64 t) :
    ∃ w', (Instr.mapUpdate 57 (.map (some b)) (.agg #[.int .i64 f, .int .i64 t]) (.agg #[])).run Try.prog w = .ok () w' ∧ BSet w' b (n + 1) (fun f' t' => (f' = f ∧ t' = t) ∨ s f' t') ∧ w.grownBy w' (some b) := by
  obtain ⟨D, h1, h2⟩ := h
  obtain ⟨w', hrun, ho, hg⟩ := h1.update lawB Try.underlying57 hn (keyB hf ht) unitElem_mk
  refine ⟨w', hrun, ⟨_, ho, fun f' t' hf' ht' => ?_⟩, hg⟩
  by_cases e : f' = f ∧ t' = t
  · obtain ⟨rfl, rfl⟩ := e
    rw [has_put_same h1.isMap (bnL_key _ _)]
    exact (bP_true (.inl ⟨rfl, rfl⟩)).symm
  · rw [has_put_other (bnL_ne hf' ht' hf ht e), h2 f' t' hf' ht']
    by_cases hs : s f' t'
    · rw [bP_true hs, bP_true (.inr hs)]
    · rw [bP_false hs, bP_false (fun h => h.elim e hs)]

/-- The bans of a list. -/
def inL (l : List BanD) (f t : Int) : Prop := ∃ d ∈ l, d.fr = f ∧ d.to = t
set_option maxRecDepth 100000 in
set_option maxHeartbeats 1000000 in
theorem put_few (b n : Nat) (s : Int → Int → Prop) (a : Option Addr) (m c : Nat) (l : List BanD) (bs : List Nat) (w : World) (hS : BSet w b n s) (hI : BanL w a l bs) (hl : l.length = m) (hnm : n + m ≤ 2001) (hb : b ∉ bs) :
    Calls Try.prog 46 #[.map (some b), .slice a m c] w fun e w' => e = .returned (.tuple #[]) ∧ BSet w' b (n + m) (fun f t => inL l f t ∨ s f t) ∧ w.grownBy w' (some b) := by
  have Hl : Hid (l.length = m) := hl
  clear hl
  go_enter Try.func46, Try.ntmps46
  go_wp2
  go_loopw [5, 8] (fun _ i wr => ∃ k : Nat, k ≤ m ∧ i = .int .i64 k ∧ BSet wr b (n + k) (fun f t => inL (l.take k) f t ∨ s f t) ∧ w.grownBy wr (some b)) (fun _ i _ => m - (intOf i).toNat)
  case atStart => exact ⟨0, Nat.zero_le _, rfl, by rw [(by (funext f t; simp [inL]) : (fun f t => inL (l.take 0) f t ∨ s f t) = s)]; simpa using hS, World.grownBy.refl _ _⟩
  case round =>
    obtain ⟨k, hk, rfl, hSk, hgr⟩ := hrel
    by_cases hlt : k < m
    · have hkl : k < l.length := by rw [Hl.out]; exact hlt
      obtain ⟨b', off, f, rfl, hb', hx⟩ := (hI.grown banE hgr hb).out hkl
      obtain ⟨_, i0, i1, z0, z1⟩ := hx k hkl
      obtain ⟨d, Hd⟩ : ∃ d, Hid (d = l[k]) := ⟨_, (rfl : l[k] = _)⟩
      rw [← Hd.out] at z0 z1 i0 i1
      obtain ⟨V, HV⟩ : ∃ V, Hid (V = wr.alloc (.cells #[.int .i64 d.fr, .int .i64 d.to] 75)) := ⟨_, (rfl : wr.alloc (.cells #[.int .i64 d.fr, .int .i64 d.to] 75) = _)⟩
      have hbV : Bel wr V := by rw [HV.out]; exact bel_alloc (Bel.refl _) _
      have XV : Blk V wr.heap.size [.int .i64 d.fr, .int .i64 d.to] := by rw [HV.out]; exact Blk.new wr [.int .i64 d.fr, .int .i64 d.to] _
      have v0 : V.cell? ⟨wr.heap.size, 0, none⟩ = some (.int .i64 d.fr) := XV.cell 0 (by simp)
      have v1 : V.cell? ⟨wr.heap.size, 1, none⟩ = some (.int .i64 d.to) := XV.cell 1 (by simp)
      have vl := XV.lt
      have hSV := hSk.bel hbV
      obtain ⟨ln, hsz, hlen⟩ := hSV.lens
      have hsz' : (ln : Int) ≤ 2000 := by omega
      obtain ⟨w1, hput, hS1, hg1⟩ := hSV.put (by unfold maxLen; omega) i0 i1
      have HS1 : Hid (BSet w1 b (n + (k + 1)) (fun f t => inL (l.take (k + 1)) f t ∨ s f t)) := by
        have e : (fun f' t' => (f' = d.fr ∧ t' = d.to) ∨ (inL (l.take k) f' t' ∨ s f' t')) = (fun f t => inL (l.take (k + 1)) f t ∨ s f t) := by
          funext f' t'
          rw [List.take_succ_eq_append_getElem hkl]
          simp only [inL, List.mem_append, List.mem_singleton, ← Hd.out, eq_iff_iff]
          constructor
          · rintro (⟨h1, h2⟩ | ⟨x, hx, h⟩ | h)
            · exact .inl ⟨d, .inr rfl, h1.symm, h2.symm⟩
            · exact .inl ⟨x, .inl hx, h⟩
            · exact .inr h
          · rintro (⟨x, hx | hx, h1, h2⟩ | h)
            · exact .inr (.inl ⟨x, hx, h1, h2⟩)
            · subst hx; exact .inl ⟨h1.symm, h2.symm⟩
            · exact .inr (.inr h)
        rw [e] at hS1
        exact hS1
      have hG1 := (grown_step hgr hbV).trans hg1
      clear hx hI hSk hS hS1 hgr hsz hSV XV i0 i1
      go_upto_region 3 with fail
      rw [← HV.out]
      clear z0 z1 hb'
      go_wp2
      go_roundw
      case rel => exact ⟨k + 1, by omega, by go_num, HS1.out, hG1⟩
      case measure => simp [intOf]; omega
    · have e : k = m := by omega
      subst e
      have HS1 : Hid (BSet wr b (n + k) (fun f t => inL l f t ∨ s f t)) := by
        rw [List.take_of_length_le (by rw [Hl.out]; exact Nat.le_refl _)] at hSk
        exact hSk
      clear hSk
      go_wp2
      go_end0
      exact ⟨rfl, HS1.out, hgr⟩
end Go.Proofs.Ytiagdabikbjbiaa

namespace Go.Proofs.Ytiagdabikbjbiaa
open Go.RowKit Go.Maps

theorem Gr.addF {α : Type} {q : Nat} {E : Elem α} {P : α → Prop} {cs : α → List Value} (hF : Flat q E P cs) {T : TypeId} {lo : Nat} {w0 w2 w3 : World} {v v' : Value} {l : List α} {R : Nat → List Value} {d : α} (h : Gr q (flatV P cs) T lo w0 v l R (fun _ => []))
    (h02 : Bel w0 w2) (hp : P d) (hlo : lo ≤ w0.heap.size) (ho : w3.ownsRow lo T q v' (l.length + 1) (recs R l.length ++ cs d)) (hg : w2.grownBy w3 v.ownBlock) (hat : v'.ownBlock = v.ownBlock ∨ v'.ownBlock = some w2.heap.size) :
    ∃ R', Gr q (flatV P cs) T lo w3 v' (l ++ [d]) R' (fun _ => []) := by
  have := Gr.add hF.stays h (Bel.refl w0) h02 (vs := cs d) (d := d) (bs := []) (show flatV P cs w0 (cs d) d [] from ⟨rfl, hp, rfl⟩) (Fresh.nil w0 w0) hlo ho hg hat
  have e : updF (fun _ : Nat => ([] : List Nat)) l.length [] = fun _ => [] := by funext i; unfold updF; split <;> rfl
  rw [e] at this
  exact ⟨_, this⟩
theorem hatF {v : Value} {g n c H : Nat} (h : v.ownBlock = some g ∨ g = H) : (Value.slice (some ⟨g, 0, none⟩) n c).ownBlock = v.ownBlock ∨ (Value.slice (some ⟨g, 0, none⟩) n c).ownBlock = some H := by
  rcases h with h | h
  · exact .inl h.symm
  · exact .inr (by rw [h]; rfl)
end Go.Proofs.Ytiagdabikbjbiaa

namespace Go.Proofs.Ytiagdabikbjbiaa
open Go.RowKit Go.Maps

theorem Gr.kept {α : Type} {q : Nat} {E : Elem α} {P : α → Prop} {cs : α → List Value} (hF : Flat q E P cs) {T : TypeId} {lo : Nat} {w w' : World} {v : Value} {l : List α} {R : Nat → List Value} {row : Option Nat} (h : Gr q (flatV P cs) T lo w v l R (fun _ => []))
    (hg : w.grownBy w' row) (hne : v.ownBlock = none ∨ v.ownBlock ≠ row) : Gr q (flatV P cs) T lo w' v l R (fun _ => []) :=
  Gr.alike hF.stays h (h.own.kept hg hne) (fun _ _ _ hx => nomatch hx)
theorem Blk.kept {w w' : World} {B : Nat} {vs : List Value} {row : Option Nat} (h : Blk w B vs) (hg : w.grownBy w' row) (hne : some B ≠ row) : Blk w' B vs :=
  ⟨Nat.lt_of_lt_of_le h.lt hg.size, fun j hj => by rw [World.cell?_of_block (hg.block B h.lt hne)]; exact h.cell j hj, fun j => by rw [World.frozen?_of_block (hg.block B h.lt hne)]; exact h.free j⟩
theorem bel_none {w w' : World} (h : Bel w w') : w.grownBy w' none := ⟨h.out.os, h.out.tape, h.out.output, h.out.size, fun k hk _ => h.out.block k hk⟩
theorem grown_any {w w' : World} (h : Bel w w') (row : Option Nat) : w.grownBy w' row := ⟨h.out.os, h.out.tape, h.out.output, h.out.size, fun k hk _ => h.out.block k hk⟩
theorem setCell_grown (w : World) (g o : Nat) (u : Value) : w.grownBy (w.setCell ⟨g, o, none⟩ u) (some g) :=
  ⟨rfl, rfl, rfl, by simp, fun k _ hk => heap_setCell_other w ⟨g, o, none⟩ k u (fun e => hk (by simp [e]))⟩
theorem ne_swap {a b : Option Nat} (h : a = none ∨ a ≠ b) : b = none ∨ b ≠ a := by
  rcases h with h | h
  · subst h; exact Classical.em _
  · exact .inr h.symm
def intsN (l : List Nat) : List Value := l.map fun (i : Nat) => Value.int .i64 (i : Int)
theorem own_len {w : World} {base : Nat} {e : TypeId} {v : Value} {n : Nat} {xs : List Value} (h : w.ownsRow base e 1 v n xs) : xs.length = n := by rw [h.1, Nat.mul_one]
/-- A row of the call's own that is not empty. -/
theorem own_some {w : World} {base : Nat} {e : TypeId} {q : Nat} {v : Value} {n : Nat} {xs : List Value} (h : w.ownsRow base e q v n xs) (hn : 0 < n) : ∃ g cap, v = .slice (some ⟨g, 0, none⟩) n cap := by
  rcases h.2 with ⟨_, h0⟩ | ⟨g, cap, cur, h1, _⟩
  · omega
  · exact ⟨g, cap, h1⟩
theorem own_int {w : World} {base g n cap : Nat} {l : List Nat} (h : w.ownsRow base 3 1 (.slice (some ⟨g, 0, none⟩) n cap) n (intsN l)) {i : Nat} (hi : i < l.length) : w.cell? ⟨g, i, none⟩ = some (.int .i64 (l[i] : Nat)) := by
  have hl : l.length = n := by have := own_len h; simpa [intsN] using this
  rw [h.cellAt i (by omega)]
  unfold intsN
  rw [List.getElem?_map, List.getElem?_eq_getElem hi]; rfl
theorem infoBl : (Try.prog.info? 4).map (fun i => (i.zero, i.size, i.bytes)) = some (some (.bool false), 1, 1) := by kernel_rfl
theorem infoIn : (Try.prog.info? 3).map (fun i => (i.zero, i.size, i.bytes)) = some (some (.int .i64 0), 1, 8) := by kernel_rfl
end Go.Proofs.Ytiagdabikbjbiaa

namespace Go.Proofs.Ytiagdabikbjbiaa
open Go.RowKit Go.Maps

/-- The blocks of which X holds stay. -/
structure Frx (X : Nat → Prop) (w w' : World) : Prop where
  os : w'.os = w.os
  tape : w'.tape = w.tape
  output : w'.output = w.output
  size : w.heap.size ≤ w'.heap.size
  block : ∀ k, k < w.heap.size → X k → w'.heap[k]? = w.heap[k]?
theorem Frx.refl (X : Nat → Prop) (w : World) : Frx X w w := ⟨rfl, rfl, rfl, Nat.le_refl _, fun _ _ _ => rfl⟩
theorem Frx.trans {X : Nat → Prop} {a b c : World} (h : Frx X a b) (k : Frx X b c) : Frx X a c :=
  ⟨k.os.trans h.os, k.tape.trans h.tape, k.output.trans h.output, Nat.le_trans h.size k.size, fun i hi hx => (k.block i (Nat.lt_of_lt_of_le hi h.size) hx).trans (h.block i hi hx)⟩
theorem Frx.grow {X : Nat → Prop} {a b : World} {row : Option Nat} (h : a.grownBy b row) (hr : ∀ x, row = some x → ¬ X x) : Frx X a b :=
  ⟨h.os, h.tape, h.output, h.size, fun k hk hx => h.block k hk fun e => hr k e.symm hx⟩
theorem Frx.bel {X : Nat → Prop} {a b : World} (h : Bel a b) : Frx X a b := ⟨h.out.os, h.out.tape, h.out.output, h.out.size, fun k hk _ => h.out.block k hk⟩
theorem Frx.blk {X : Nat → Prop} {a b : World} {B : Nat} {vs : List Value} (h : Frx X a b) (k : Blk a B vs) (hx : X B) : Blk b B vs :=
  ⟨Nat.lt_of_lt_of_le k.lt h.size, fun j hj => by rw [World.cell?_of_block (h.block B k.lt hx)]; exact k.cell j hj, fun j => by rw [World.frozen?_of_block (h.block B k.lt hx)]; exact k.free j⟩
theorem Frx.sl {α : Type} {q : Nat} {E : Elem α} (hE : Stays q E) {X : Nat → Prop} {w w' : World} {a : Option Addr} {l : List α} {bs : List Nat} (g : Frx X w w') (h : Sl q E w a l bs) (hn : ∀ x ∈ bs, X x) : Sl q E w' a l bs :=
  h.alike hE fun b hb => by
    have hl := h.lt hE b hb
    have e := g.block b hl (hn b hb)
    exact ⟨Nat.lt_of_lt_of_le hl g.size, fun o => World.cell?_of_block e, fun o => World.frozen?_of_block e⟩
theorem Frx.below {X : Nat → Prop} {a b : World} {N : Nat} (h : Frx X a b) (hx : ∀ k, k < N → X k) (hN : N ≤ a.heap.size) : Below N a b :=
  ⟨h.os, h.tape, h.output, h.size, fun k hk => h.block k (by omega) (hx k hk)⟩
theorem Frx.bset {X : Nat → Prop} {a b : World} {M n : Nat} {s : Int → Int → Prop} (h : Frx X a b) (k : BSet a M n s) (hx : X M) : BSet b M n s := by
  obtain ⟨D, ⟨es, clock, h1, h2⟩, h3⟩ := k
  exact ⟨D, ⟨es, clock, by rw [h.block M (by have := World.ownsMap.lt (⟨es, clock, h1, h2⟩ : a.ownsMap Try.prog 75 unitElem M n D); exact this) hx]; exact h1, h2⟩, h3⟩

theorem blk_of {w : World} {N : Nat} {vs : List Value} {t : TypeId} (h : w.heap[N]? = some (.cells vs.toArray t)) : Blk w N vs := by
  refine ⟨?_, fun j hj => ?_, fun j => ?_⟩
  · exact (Array.getElem?_eq_some_iff.1 h).1
  · simp [World.cell?, h, hj]
  · simp [World.frozen?, h]

/-- Two tables of n rows of numbers, in the blocks B; their rows of the call's own from lo on. -/
structure Tabs (lo : Nat) (w : World) (B : Bool → Nat) (n : Nat) (V : Bool → Nat → Value) (F : Bool → Nat → List Nat) : Prop where
  lt : ∀ t, B t < lo
  sz : lo ≤ w.heap.size
  ne : B true ≠ B false
  cell : ∀ t p, p < n → w.cell? ⟨B t, p, none⟩ = some (V t p)
  free : ∀ t p, w.frozen? ⟨B t, p, none⟩ = false
  rows : ∀ t p, p < n → w.ownsRow lo 2 1 (V t p) (F t p).length (intsN (F t p))
  dis : ∀ t p t' p', p < n → p' < n → ¬ (t = t' ∧ p = p') → (V t p).ownBlock = none ∨ (V t p).ownBlock ≠ (V t' p').ownBlock
variable {lo : Nat} {w wa wb : World} {B : Bool → Nat} {n : Nat} {V : Bool → Nat → Value} {F : Bool → Nat → List Nat}
theorem Tabs.bel (h : Tabs lo w B n V F) (hb : Bel w wa) : Tabs lo wa B n V F :=
  ⟨h.lt, Nat.le_trans h.sz hb.out.size, h.ne, fun t p hp => by have := h.lt t; have := h.sz; exact bel_cellM hb (by omega) (h.cell t p hp), fun t p => by have := h.lt t; have := h.sz; rw [hb.out.frozen (p := ⟨B t, p, none⟩) (show B t < w.heap.size by omega)]; exact h.free t p,
    fun t p hp => (h.rows t p hp).kept (bel_none hb) (Classical.em _), h.dis⟩
theorem Tabs.row_ne (h : Tabs lo w B n V F) {t : Bool} {p : Nat} (hp : p < n) (k : Nat) (hk : k < lo) : some k ≠ (V t p).ownBlock := fun e => by have := ((h.rows t p hp).lt k e.symm).1; omega
/-- One number more in one row. -/
theorem Tabs.step (h : Tabs lo w B n V F) (hb : Bel w wa) {t : Bool} {p : Nat} (hp : p < n) {i : Nat} {v' : Value}
    (ho : wb.ownsRow lo 2 1 v' ((F t p).length + 1) (intsN (F t p) ++ [.int .i64 (i : Nat)])) (hg : wa.grownBy wb (V t p).ownBlock) (hat : v'.ownBlock = (V t p).ownBlock ∨ v'.ownBlock = some wa.heap.size) :
    ∃ V', Tabs lo (wb.setCell ⟨B t, p, none⟩ v') B n V' (fun t' p' => if t' = t ∧ p' = p then F t p ++ [i] else F t' p') ∧ Frx (fun k => k ≠ B true ∧ k ≠ B false ∧ (k < lo ∨ some k ≠ (V t p).ownBlock)) w (wb.setCell ⟨B t, p, none⟩ v') ∧ ∀ t' p' x, p' < n → (V' t' p').ownBlock = some x → (V t' p').ownBlock = some x ∨ x = wa.heap.size := by
  have ha := h.bel hb
  have hG0 := setCell_grown wb (B t) p v'
  have hBn : ∀ t', B t' < wa.heap.size := fun t' => by have := h.lt t'; have := ha.sz; omega
  have offB : ∀ {v : Value} {m : Nat} {xs : List Value} (t' : Bool), wb.ownsRow lo 2 1 v m xs → v.ownBlock = none ∨ v.ownBlock ≠ some (B t') := fun t' ho => .inr fun e => by have := (ho.lt _ e).1; have := h.lt t'; omega
  have hsame : ∀ t', wb.heap[B t']? = wa.heap[B t']? := fun t' => hg.block (B t') (hBn t') (ha.row_ne hp (B t') (h.lt t'))
  refine ⟨fun t' p' => if t' = t ∧ p' = p then v' else V t' p', ⟨h.lt, ?_, h.ne, fun t' p' hp' => ?_, fun t' p' => ?_, fun t' p' hp' => ?_, fun t1 p1 t2 p2 h1 h2 hd => ?_⟩, ?_, fun t' p' x _ hx => ?_⟩
  · have := hg.size; have := ha.sz; simp [World.setCell]; omega
  · by_cases e : t' = t ∧ p' = p
    · obtain ⟨rfl, rfl⟩ := e
      rw [if_pos ⟨rfl, rfl⟩]
      exact World.cell?_setCell_same _ _ _ (by rw [World.cell?_of_block (a := ⟨B t', p', none⟩) (hsame t')]; exact ha.cell t' p' hp')
    · rw [if_neg e, World.cell?_setCell_other _ _ _ _ (fun e2 => e (by
        have e3 := congrArg Addr.block e2
        have e4 := congrArg Addr.off e2
        simp only at e3 e4
        refine ⟨?_, e4.symm⟩
        have := h.ne
        cases t <;> cases t' <;> first | rfl | exact absurd e3 this | exact absurd e3.symm this)), World.cell?_of_block (a := ⟨B t', p', none⟩) (hsame t')]
      exact ha.cell t' p' hp'
  · rw [World.frozen?_setCell, World.frozen?_of_block (a := ⟨B t', p', none⟩) (hsame t')]; exact ha.free t' p'
  · show (wb.setCell ⟨B t, p, none⟩ v').ownsRow lo 2 1 (if t' = t ∧ p' = p then v' else V t' p') (if t' = t ∧ p' = p then F t p ++ [i] else F t' p').length (intsN (if t' = t ∧ p' = p then F t p ++ [i] else F t' p'))
    by_cases e : t' = t ∧ p' = p
    · rw [if_pos e, if_pos e]
      have e2 : intsN (F t p ++ [i]) = intsN (F t p) ++ [.int .i64 (i : Nat)] := by simp [intsN]
      rw [e2, List.length_append]
      exact ho.kept hG0 (offB t ho)
    · rw [if_neg e, if_neg e]
      have hr := (ha.rows t' p' hp').kept hg (h.dis t' p' t p hp' hp e)
      exact hr.kept hG0 (offB t hr)
  · have hlt : ∀ {t' p'}, p' < n → (V t' p').ownBlock ≠ some wa.heap.size := fun hp' e => by have := ((ha.rows _ _ hp').lt _ e).2; omega
    show (if t1 = t ∧ p1 = p then v' else V t1 p1).ownBlock = none ∨ (if t1 = t ∧ p1 = p then v' else V t1 p1).ownBlock ≠ (if t2 = t ∧ p2 = p then v' else V t2 p2).ownBlock
    by_cases e : t1 = t ∧ p1 = p <;> by_cases e' : t2 = t ∧ p2 = p
    · exact absurd ⟨e.1.trans e'.1.symm, e.2.trans e'.2.symm⟩ hd
    · rw [if_pos e, if_neg e']
      rcases hat with hat | hat
      · rw [hat, ← e.1, ← e.2]; exact h.dis t1 p1 t2 p2 h1 h2 hd
      · rw [hat]; exact .inr (hlt h2).symm
    · rw [if_neg e, if_pos e']
      rcases hat with hat | hat
      · rw [hat, ← e'.1, ← e'.2]; exact h.dis t1 p1 t2 p2 h1 h2 hd
      · rw [hat]; exact .inr (hlt h1)
    · rw [if_neg e, if_neg e']; exact h.dis t1 p1 t2 p2 h1 h2 hd
  · refine (Frx.bel hb).trans ((Frx.grow hg fun x hx hX => ?_).trans (Frx.grow hG0 fun x hx hX => ?_))
    · rcases hX.2.2 with h1 | h1
      · exact ha.row_ne hp x h1 hx.symm
      · exact h1 hx.symm
    · injection hx with hx
      cases t
      · exact hX.2.1 hx.symm
      · exact hX.1 hx.symm
  · change (if t' = t ∧ p' = p then v' else V t' p').ownBlock = some x at hx
    split at hx
    · rename_i e
      rcases hat with hat | hat
      · rw [e.1, e.2, ← hat]; exact .inl hx
      · rw [hat] at hx; injection hx with hx; exact .inr hx.symm
    · exact .inl hx

theorem Frx.then {X Y : Nat → Prop} {a b c : World} (h : Frx X a b) (k : Frx Y b c) (hi : ∀ k, k < a.heap.size → X k → Y k) : Frx X a c :=
  ⟨k.os.trans h.os, k.tape.trans h.tape, k.output.trans h.output, Nat.le_trans h.size k.size, fun i hl hx => (k.block i (Nat.lt_of_lt_of_le hl h.size) (hi i hl hx)).trans (h.block i hl hx)⟩
theorem Tabs.kept (h : Tabs lo w B n V F) {R : Nat} (hg : w.grownBy wa (some R)) (hR : R < lo) (h1 : R ≠ B true) (h2 : R ≠ B false) : Tabs lo wa B n V F := by
  have hs : ∀ t, wa.heap[B t]? = w.heap[B t]? := fun t => hg.block (B t) (by have := h.lt t; have := h.sz; omega) (fun e => by injection e with e; cases t <;> simp_all)
  exact ⟨h.lt, Nat.le_trans h.sz hg.size, h.ne, fun t p hp => by rw [World.cell?_of_block (a := ⟨B t, p, none⟩) (hs t)]; exact h.cell t p hp, fun t p => by rw [World.frozen?_of_block (a := ⟨B t, p, none⟩) (hs t)]; exact h.free t p,
    fun t p hp => (h.rows t p hp).kept hg (.inr fun e => by have := ((h.rows t p hp).lt _ e).1; omega), h.dis⟩
/-- Where a road begins (true), where it ends. -/
def endR (t : Bool) (r : RoadD) : Int := if t then r.fr else r.to
/-- Which of the first k roads begin (end) at p. -/
def bgF (rs : List RoadD) (k : Nat) (t : Bool) (p : Nat) : List Nat := (List.range k).filter fun i => (rs[i]?).any fun r => decide (endR t r = (p : Int))
theorem bgF_zero (rs : List RoadD) (t : Bool) (p : Nat) : bgF rs 0 t p = [] := rfl
theorem bgF_succ {rs : List RoadD} {k : Nat} (hk : k < rs.length) (t : Bool) (p : Nat) : bgF rs (k + 1) t p = if endR t rs[k] = (p : Int) then bgF rs k t p ++ [k] else bgF rs k t p := by
  unfold bgF
  rw [List.range_succ, List.filter_append]
  by_cases h : endR t rs[k] = (p : Int)
  · rw [if_pos h]; simp [hk, h]
  · rw [if_neg h]; simp [hk, h]
theorem bgF_len (rs : List RoadD) (k : Nat) (t : Bool) (p : Nat) : (bgF rs k t p).length ≤ k := by
  unfold bgF
  exact Nat.le_trans (List.length_filter_le _ _) (by simp)
theorem bgF_mem {rs : List RoadD} {k : Nat} {t : Bool} {p i : Nat} (h : i ∈ bgF rs k t p) : i < k := List.mem_range.1 (List.mem_filter.1 h).1
/-- Four blocks more. -/
theorem four0 (w : World) (a b c d : Obj) : ((((w.alloc a).alloc b).alloc c).alloc d).drew.heap[w.heap.size]? = some a := by
  rw [((bel_alloc (bel_alloc (bel_alloc (Bel.refl (w.alloc a)) b) c) d).drew).out.block _ (by simp)]
  exact heap_alloc_new w a
theorem four1 (w : World) (a b c d : Obj) : ((((w.alloc a).alloc b).alloc c).alloc d).drew.heap[w.heap.size + 1]? = some b := by
  rw [((bel_alloc (bel_alloc (Bel.refl ((w.alloc a).alloc b)) c) d).drew).out.block _ (by simp)]
  simpa using heap_alloc_new (w.alloc a) b
theorem four2 (w : World) (a b c d : Obj) : ((((w.alloc a).alloc b).alloc c).alloc d).drew.heap[w.heap.size + 1 + 1]? = some c := by
  rw [((bel_alloc (Bel.refl (((w.alloc a).alloc b).alloc c)) d).drew).out.block _ (by simp)]
  simpa using heap_alloc_new ((w.alloc a).alloc b) c
theorem four3 (w : World) (a b c d : Obj) : ((((w.alloc a).alloc b).alloc c).alloc d).drew.heap[w.heap.size + 1 + 1 + 1]? = some d := by
  rw [((Bel.refl ((((w.alloc a).alloc b).alloc c).alloc d)).drew).out.block _ (by simp)]
  simpa using heap_alloc_new (((w.alloc a).alloc b).alloc c) d
theorem fourB (w : World) (a b c d : Obj) : Bel w ((((w.alloc a).alloc b).alloc c).alloc d).drew := (bel_alloc (bel_alloc (bel_alloc (bel_alloc (Bel.refl w) _) _) _) _).drew
theorem fourS (w : World) (a b c d : Obj) : ((((w.alloc a).alloc b).alloc c).alloc d).drew.heap.size = w.heap.size + 4 := by
  show ((((w.alloc a).alloc b).alloc c).alloc d).heap.size = _
  simp
/-- The network's block, its two tables' blocks and its map, new and empty. -/
structure CutN (w1 : World) (s0 s1 s2 : Value) (n : Nat) (a : Value) (wx : World) : Prop where
  out : ∃ N Bb Be M, a = .pointer (some ⟨N, 0, none⟩) ∧ wx.heap[N]? = some (.cells #[s0, s1, s2, .slice (some ⟨Bb, 0, none⟩) n n, .slice (some ⟨Be, 0, none⟩) n n, .map (some M)] 59) ∧
    wx.heap[Bb]? = some (.cells (madeCells #[.slice none 0 0] n) 48) ∧ wx.heap[Be]? = some (.cells (madeCells #[.slice none 0 0] n) 48) ∧ wx.heap[M]? = some (.map #[] 0) ∧
    Bel w1 wx ∧ wx.heap.size = w1.heap.size + 4 ∧ (w1.heap.size ≤ N ∧ w1.heap.size ≤ Bb ∧ w1.heap.size ≤ Be ∧ w1.heap.size ≤ M) ∧ N ≠ Bb ∧ N ≠ Be ∧ N ≠ M ∧ Bb ≠ Be ∧ Bb ≠ M ∧ Be ≠ M
theorem cell_made {w : World} {B n : Nat} {t : TypeId} (h : w.heap[B]? = some (.cells (madeCells #[.slice none 0 0] n) t)) : (∀ p, p < n → w.cell? ⟨B, p, none⟩ = some (.slice none 0 0)) ∧ (∀ p, w.frozen? ⟨B, p, none⟩ = false) := by
  refine ⟨fun p hp => ?_, fun p => by simp [World.frozen?, h]⟩
  simp only [World.cell?, h]
  rw [← Array.getElem?_toList, toList_madeCells_one]
  simp [hp]
theorem Tabs.new {lo n : Nat} {w : World} {Bb Be : Nat} {t : TypeId} (h1 : w.heap[Bb]? = some (.cells (madeCells #[.slice none 0 0] n) t)) (h2 : w.heap[Be]? = some (.cells (madeCells #[.slice none 0 0] n) t)) (hne : Bb ≠ Be) (hb : Bb < lo) (he : Be < lo) (hlo : lo ≤ w.heap.size) (rs : List RoadD) :
    Tabs lo w (fun t => cond t Bb Be) n (fun _ _ => .slice none 0 0) (bgF rs 0) := by
  obtain ⟨c1, f1⟩ := cell_made h1
  obtain ⟨c2, f2⟩ := cell_made h2
  exact ⟨fun t => by cases t <;> assumption, hlo, hne, fun t p hp => (match t with | false => c2 p hp | true => c1 p hp), fun t p => (match t with | false => f2 p | true => f1 p), fun t p _ => by rw [bgF_zero]; exact World.ownsRow_nil _ _ _ _, fun _ _ _ _ _ _ _ => .inl rfl⟩
theorem BSet.of {w : World} {M : Nat} (h : w.heap[M]? = some (.map #[] 0)) : BSet w M 0 (fun _ _ => False) := by
  obtain ⟨D, ⟨es, clock, h1, h2⟩, h3⟩ := BSet.new w
  have e : (Obj.map es clock) = .map #[] 0 := by
    have := heap_alloc_new w (.map #[] 0)
    rw [this] at h1
    injection h1 with h1
    exact h1.symm
  injection e with e1 e2
  subst e1 e2
  exact ⟨D, ⟨#[], 0, h, h2⟩, h3⟩
end Go.Proofs.Ytiagdabikbjbiaa

namespace Go.Proofs.Ytiagdabikbjbiaa
open Go.RowKit Go.Maps

def intsV (l : List Int) : List Value := l.map (.int .i64)
/-- A row of numbers of the call's own. -/
def OwnI (base : Nat) (w : World) (v : Value) (l : List Int) : Prop := w.ownsRow base 2 1 v l.length (intsV l)
theorem own_base {base base' : Nat} {w : World} {v : Value} {l : List Int} (h : OwnI base w v l) (hb : base' ≤ base) : OwnI base' w v l := by
  obtain ⟨h1, h2⟩ := h
  refine ⟨h1, ?_⟩
  rcases h2 with h2 | ⟨g, cap, cur, e1, e2, e3⟩
  · exact .inl h2
  · exact .inr ⟨g, cap, cur, e1, Nat.le_trans hb e2, e3⟩
theorem own_add {base : Nat} {w : World} {v : Value} {l : List Int} {x : Int} (h : w.ownsRow base 2 1 v (l.length + 1) (intsV l ++ [.int .i64 x])) : OwnI base w v (l ++ [x]) := by
  unfold OwnI intsV
  rw [List.length_append, List.map_append]
  exact h
theorem infoI : (Try.prog.info? 2).map (fun i => (i.zero, i.size, i.bytes)) = some (some (.int .i64 0), 1, 8) := by kernel_rfl
theorem own_ints {base : Nat} {w : World} {v : Value} {l : List Int} (h : OwnI base w v l) (hi : ∀ y ∈ l, In64 y) :
    ∃ a c bs, v = .slice a l.length c ∧ Ints w a l bs ∧ (∀ x ∈ bs, base ≤ x ∧ x < w.heap.size) ∧ ∀ x ∈ bs, ∀ j, w.frozen? ⟨x, j, none⟩ = false := by
  obtain ⟨a, c, rfl⟩ := own_shape h
  rcases Nat.eq_zero_or_pos l.length with z | z
  · obtain rfl : l = [] := List.length_eq_zero_iff.1 z
    refine ⟨a, c, [], rfl, Sl.nil, ?_, ?_⟩ <;> intro x hx <;> simp at hx
  · rcases h.2 with ⟨_, hz⟩ | ⟨g, cap, cur, e, hg, e3, _⟩
    · omega
    · cases e
      have hlt : g < w.heap.size := by
        rcases Nat.lt_or_ge g w.heap.size with h | h
        · exact h
        · rw [Array.getElem?_eq_none h] at e3; cases e3
      have hm : ∀ x ∈ g :: (List.range l.length).flatMap (fun _ => ([] : List Nat)), x = g := fun x hx => by
        rcases List.mem_cons.1 hx with h | h
        · exact h
        · obtain ⟨_, _, h⟩ := List.mem_flatMap.1 h
          exact nomatch h
      refine ⟨_, _, g :: (List.range l.length).flatMap (fun _ => ([] : List Nat)), rfl, .inr ⟨g, 0, fun _ => [], rfl, hlt, rfl, fun i hil => ⟨rfl, hi _ (List.getElem_mem hil), ?_⟩⟩, fun x hx => by rw [hm x hx]; exact ⟨hg, hlt⟩, fun x hx j => by rw [hm x hx]; simp [World.frozen?, e3]⟩
      rw [Nat.zero_add, Nat.mul_one, h.cellAt i (by omega)]
      simp [intsV, hil]
/-- A row of numbers as an answer: it reads as this list, in blocks of the call's own. -/
def OutI (base : Nat) (w : World) (v : Value) (l : List Int) : Prop :=
  ∃ a c bs, v = .slice a l.length c ∧ Ints w a l bs ∧ (∀ x ∈ bs, base ≤ x ∧ x < w.heap.size) ∧ ∀ x ∈ bs, ∀ j, w.frozen? ⟨x, j, none⟩ = false
end Go.Proofs.Ytiagdabikbjbiaa

namespace Go.Proofs.Ytiagdabikbjbiaa
open Go.RowKit Go.Maps

/-- Those of a row that are not forbidden behind r. -/
noncomputable def tnL (row : List Nat) (bs : List BanD) (r : Nat) : List Int := (row.filter fun (i : Nat) => !bP (inL bs (r : Int) (i : Int))).map fun (i : Nat) => (i : Int)
theorem tnL_yes {row : List Nat} {bs : List BanD} {r k : Nat} (hk : k < row.length) (h : bP (inL bs (r : Int) (row[k] : Int)) = false) : tnL (row.take (k + 1)) bs r = tnL (row.take k) bs r ++ [(row[k] : Int)] := by
  unfold tnL
  rw [List.take_succ_eq_append_getElem hk, List.filter_append, List.map_append]
  simp [h]
theorem tnL_no {row : List Nat} {bs : List BanD} {r k : Nat} (hk : k < row.length) (h : bP (inL bs (r : Int) (row[k] : Int)) = true) : tnL (row.take (k + 1)) bs r = tnL (row.take k) bs r := by
  unfold tnL
  rw [List.take_succ_eq_append_getElem hk, List.filter_append, List.map_append]
  simp [h]
theorem tnL_len (row : List Nat) (bs : List BanD) (r : Nat) : (tnL row bs r).length ≤ row.length := by
  unfold tnL
  rw [List.length_map]
  exact List.length_filter_le _ _
/-- The Roads that may follow the x-th one. -/
noncomputable def trnQ (g : GraphD) (x : Int) : List Int :=
  if bP (graphP g) = true ∧ inN g.roads.length x = true then tnL (bgF g.roads g.roads.length true ((g.roads[x.toNat]?).elim 0 fun r => r.to.toNat)) g.bans x.toNat else []
theorem trnQ_at {g : GraphD} {r p : Nat} (hP : graphP g) (hr : r < g.roads.length) (hp : g.roads[r].to = (p : Int)) : trnQ g (r : Int) = tnL (bgF g.roads g.roads.length true p) g.bans r := by
  unfold trnQ
  rw [if_pos ⟨bP_true hP, inN_iff.2 ⟨by omega, by omega⟩⟩]
  simp [hr, hp]
theorem trnQ_no {g : GraphD} {x : Int} (h : ¬ (graphP g ∧ inN g.roads.length x = true)) : trnQ g x = [] := by
  unfold trnQ
  rw [if_neg fun hh => h ⟨bP_out hh.1, hh.2⟩]
theorem trnQ_len (g : GraphD) (x : Int) : (trnQ g x).length ≤ 8000 := by
  by_cases h : graphP g ∧ inN g.roads.length x = true
  · unfold trnQ
    rw [if_pos ⟨bP_true h.1, h.2⟩]
    exact Nat.le_trans (tnL_len _ _ _) (Nat.le_trans (bgF_len _ _ _ _) h.1.1.2.1)
  · rw [trnQ_no h]; simp
/-- The same, road by road: the first k. -/
noncomputable def tnT (g : GraphD) (r p : Nat) (k : Nat) : List Int := tnL (bgF g.roads k true p) g.bans r
theorem tnT_zero (g : GraphD) (r p : Nat) : tnT g r p 0 = [] := by unfold tnT tnL; rw [bgF_zero]; rfl
theorem tnT_yes {g : GraphD} {r p k : Nat} (hk : k < g.roads.length) (h1 : g.roads[k].fr = (p : Int)) (h2 : bP (inL g.bans (r : Int) (k : Int)) = false) : tnT g r p (k + 1) = tnT g r p k ++ [(k : Int)] := by
  unfold tnT tnL
  rw [bgF_succ hk, if_pos (by simpa [endR] using h1), List.filter_append, List.map_append]
  simp [h2]
theorem tnT_ban {g : GraphD} {r p k : Nat} (hk : k < g.roads.length) (h2 : bP (inL g.bans (r : Int) (k : Int)) = true) : tnT g r p (k + 1) = tnT g r p k := by
  unfold tnT tnL
  rw [bgF_succ hk]
  split
  · rw [List.filter_append, List.map_append]; simp [h2]
  · rfl
theorem tnT_no {g : GraphD} {r p k : Nat} (hk : k < g.roads.length) (h1 : ¬ g.roads[k].fr = (p : Int)) : tnT g r p (k + 1) = tnT g r p k := by
  unfold tnT tnL
  rw [bgF_succ hk, if_neg (by simpa [endR] using h1)]
theorem tnT_len (g : GraphD) (r p k : Nat) : (tnT g r p k).length ≤ k := Nat.le_trans (tnL_len _ _ _) (bgF_len _ _ _ _)
end Go.Proofs.Ytiagdabikbjbiaa

namespace Go.Proofs.Ytiagdabikbjbiaa
open Go.RowKit Go.Maps

theorem bnEq (x y x' y' : Int) (w : World) : Sem.run Try.prog (binOp .eql 75 (.agg #[.int .i64 x, .int .i64 y]) (.agg #[.int .i64 x', .int .i64 y'])) w = .ok (.bool (decide (x = x') && decide (y = y'))) w := by
  by_cases h1 : x = x' <;> by_cases h2 : y = y' <;> go_simp
theorem bn_same {x y x' y' : Int} (h : x = x' ∧ y = y') : (decide (x = x') && decide (y = y')) = true := by simp [h.1, h.2]
theorem bn_diff {x y x' y' : Int} (h : ¬ (x = x' ∧ y = y')) : (decide (x = x') && decide (y = y')) = false := by
  rw [Bool.and_eq_false_iff, decide_eq_false_iff_not, decide_eq_false_iff_not]
  rcases Classical.em (x = x') with h1 | h1
  · exact .inr fun h2 => h ⟨h1, h2⟩
  · exact .inl h1
theorem banLt_trans {a b c : BanD} (h1 : banLt a b) (h2 : banLt b c) : banLt a c := by unfold banLt at *; omega
theorem banLt_irr {a : BanD} : ¬ banLt a a := by unfold banLt; omega
theorem bans_mono {rs : List RoadD} {l : List BanD} (h : bansP rs l) {i : Nat} : ∀ {j : Nat} (hj : j < l.length) (hij : i < j), banLt (l[i]'(by omega)) l[j]
  | 0, _, hij => absurd hij (Nat.not_lt_zero _)
  | j + 1, hj, hij => by
    have h1 := (h (j + 1) hj).2 (Nat.succ_pos _)
    simp only [Nat.add_sub_cancel] at h1
    by_cases e : i = j
    · subst e; exact h1
    · exact banLt_trans (bans_mono h (by omega) (by omega)) h1

end Go.Proofs.Ytiagdabikbjbiaa

namespace Go.Proofs.Ytiagdabikbjbiaa
open Go.RowKit

instance (a b : BanD) : Decidable (banLt a b) := by unfold banLt; infer_instance
theorem ban_ext {a b : BanD} (h1 : a.fr = b.fr) (h2 : a.to = b.to) : a = b := by cases a; cases b; simp_all
theorem banLt_tri (a b : BanD) : banLt a b ∨ a = b ∨ banLt b a := by
  unfold banLt
  by_cases h : a.fr = b.fr ∧ a.to = b.to
  · exact .inr (.inl (ban_ext h.1 h.2))
  · omega
theorem banLt_tr {a b c : BanD} (h1 : banLt a b) (h2 : banLt b c) : banLt a c := by unfold banLt at *; omega
theorem banLt_ir {a : BanD} : ¬ banLt a a := by unfold banLt; omega

/-- In order, none twice. -/
def SrtB (l : List BanD) : Prop := ∀ i j (hi : i < l.length) (hj : j < l.length), i < j → banLt l[i] l[j]
theorem SrtB.tail {x : BanD} {r : List BanD} (h : SrtB (x :: r)) : SrtB r := fun i j hi hj hij => h (i + 1) (j + 1) (by simp; omega) (by simp; omega) (by omega)
theorem SrtB.head {x : BanD} {r : List BanD} (h : SrtB (x :: r)) : ∀ y ∈ r, banLt x y := fun y hy => by
  obtain ⟨i, hi, rfl⟩ := List.getElem_of_mem hy
  exact h 0 (i + 1) (by simp) (by simp; omega) (by omega)
theorem SrtB.cons {x : BanD} {r : List BanD} (h : SrtB r) (hx : ∀ y ∈ r, banLt x y) : SrtB (x :: r) := fun i j hi hj hij => by
  cases j with
  | zero => omega
  | succ j =>
    cases i with
    | zero => exact hx _ (List.getElem_mem _)
    | succ i => exact h i j (by simp at hi; omega) (by simp at hj; omega) (by omega)

/-- One more, in its place. -/
def addB : List BanD → BanD → List BanD
  | [], b => [b]
  | x :: r, b => if banLt x b then x :: addB r b else if banLt b x then b :: x :: r else x :: r
theorem addB_mem : ∀ (l : List BanD) (b y : BanD), y ∈ addB l b ↔ y = b ∨ y ∈ l
  | [], b, y => by simp [addB]
  | x :: r, b, y => by
    unfold addB
    split
    · rw [List.mem_cons, addB_mem r b y, List.mem_cons]
      constructor
      · rintro (h | h | h) <;> simp [h]
      · rintro (h | h | h) <;> simp [h]
    · split
      · simp
      · rename_i h1 h2
        have e : x = b := (banLt_tri x b).elim (fun h => absurd h h1) fun h => h.elim (fun h => h) fun h => absurd h h2
        subst e
        simp
theorem addB_srt : ∀ (l : List BanD) (b : BanD), SrtB l → SrtB (addB l b)
  | [], b, _ => fun i j hi hj hij => by simp [addB] at hi hj; omega
  | x :: r, b, h => by
    unfold addB
    split
    · rename_i hx
      exact (addB_srt r b h.tail).cons fun y hy => by
        rcases (addB_mem r b y).1 hy with rfl | hy
        · exact hx
        · exact h.head y hy
    · split
      · rename_i _ hb
        exact h.cons fun y hy => by
          rcases List.mem_cons.1 hy with rfl | hy
          · exact hb
          · exact banLt_tr hb (h.head y hy)
      · exact h
theorem addB_len : ∀ (l : List BanD) (b : BanD), (addB l b).length ≤ l.length + 1
  | [], _ => Nat.le_refl _
  | x :: r, b => by
    have := addB_len r b
    unfold addB
    split
    · simp only [List.length_cons]; omega
    · split <;> simp
/-- At its place: it is there already. -/
theorem addB_there : ∀ (l : List BanD) (b : BanD) (p : Nat) (hp : p < l.length), (∀ i (h : i < l.length), i < p → banLt l[i] b) → l[p] = b → addB l b = l
  | x :: r, b, 0, _, _, h => by
    have h : x = b := h
    subst h
    unfold addB
    rw [if_neg banLt_ir, if_neg banLt_ir]
  | x :: r, b, p + 1, hp, ha, h => by
    unfold addB
    have h0 : banLt x b := ha 0 (by simp) (by omega)
    rw [if_pos h0, addB_there r b p (by simpa using hp) (fun i hi hip => ha (i + 1) (by simp; omega) (by omega)) h]
/-- It is not there yet: what lies ahead, it, what lies behind. -/
theorem addB_new : ∀ (l : List BanD) (b : BanD) (p : Nat), p ≤ l.length → (∀ i (h : i < l.length), i < p → banLt l[i] b) → (∀ h : p < l.length, banLt b l[p]) → addB l b = l.take p ++ b :: l.drop p
  | [], b, p, hp, _, _ => by simp [addB]
  | x :: r, b, 0, _, _, h => by
    have h0 : banLt b x := h (by simp)
    have h1 : ¬ banLt x b := fun hh => banLt_ir (banLt_tr h0 hh)
    unfold addB
    rw [if_neg h1, if_pos h0]
    rfl
  | x :: r, b, p + 1, hp, ha, h => by
    have h0 : banLt x b := ha 0 (by simp) (by omega)
    unfold addB
    rw [if_pos h0, addB_new r b p (by simpa using hp) (fun i hi hip => ha (i + 1) (by simp; omega) (by omega)) (fun hh => h (by simp; omega))]
    rfl
/-- What is sorted and has the same members is the same. -/
theorem srt_eq : ∀ (l m : List BanD), SrtB l → SrtB m → (∀ y, y ∈ l ↔ y ∈ m) → l = m
  | [], [], _, _, _ => rfl
  | [], y :: s, _, _, h => by have := (h y).2 (by simp); simp at this
  | x :: r, [], _, _, h => by have := (h x).1 (by simp); simp at this
  | x :: r, y :: s, hl, hm, h => by
    have e : x = y := by
      rcases List.mem_cons.1 ((h x).1 (by simp)) with h1 | h1
      · exact h1
      · rcases List.mem_cons.1 ((h y).2 (by simp)) with h2 | h2
        · exact h2.symm
        · exact absurd (banLt_tr (hl.head y h2) (hm.head x h1)) banLt_ir
    subst e
    rw [srt_eq r s hl.tail hm.tail fun z => ?_]
    constructor
    · intro hz
      rcases List.mem_cons.1 ((h z).1 (by simp [hz])) with rfl | h1
      · exact absurd (hl.head z hz) banLt_ir
      · exact h1
    · intro hz
      rcases List.mem_cons.1 ((h z).2 (by simp [hz])) with rfl | h1
      · exact absurd (hm.head z hz) banLt_ir
      · exact h1

/-- Those of a row whose way is y. -/
def wyL (row : List Nat) (rs : List RoadD) (y : Int) : List Int := (row.filter fun (i : Nat) => (rs[i]?).any fun r => decide (r.way = y)).map fun (i : Nat) => (i : Int)
theorem wyL_yes {row : List Nat} {rs : List RoadD} {y : Int} {k : Nat} (hk : k < row.length) (h : row[k] < rs.length) (e : rs[row[k]].way = y) : wyL (row.take (k + 1)) rs y = wyL (row.take k) rs y ++ [(row[k] : Int)] := by
  unfold wyL
  rw [List.take_succ_eq_append_getElem hk, List.filter_append, List.map_append]
  simp [h, e]
theorem wyL_no {row : List Nat} {rs : List RoadD} {y : Int} {k : Nat} (hk : k < row.length) (h : row[k] < rs.length) (e : ¬ rs[row[k]].way = y) : wyL (row.take (k + 1)) rs y = wyL (row.take k) rs y := by
  unfold wyL
  rw [List.take_succ_eq_append_getElem hk, List.filter_append, List.map_append]
  simp [h, e]
theorem wyL_len (row : List Nat) (rs : List RoadD) (y : Int) : (wyL row rs y).length ≤ row.length := by
  unfold wyL
  rw [List.length_map]
  exact List.length_filter_le _ _
end Go.Proofs.Ytiagdabikbjbiaa

namespace Go.Proofs.Ytiagdabikbjbiaa
open Go.RowKit Go.Maps

/-- append of any number, also of none, at a step of a region that draws. -/
theorem step_app {P : Program} (w : World) {ops : Array Oper} {o : Oper} {a : Act} {K : Act → World → Prop} {Q : Exit → Act → World → Prop} {E : Prop} (hgd : o.guard = none) (s x : Operand) (t : TypeId)
    (ho : o.op = .call { callee := .builtin .append, args := #[s, x], argTypes := #[t, t] })
    (base : Nat) (e : TypeId) (i : TypeInfo) (z : Value) (size bytes : Nat) (ht : P.underlying t = some (.slice e)) (hi : P.info? e = some i) (hz : i.zero = some z)
    (hsize : i.size = size) (hby : i.bytes = bytes) (hzs : z.cells.size = size) (hsz : 0 < size)
    (v : Value) (n : Nat) (xs : List Value) (hs : a.eval s = v) (hown : w.ownsRow base e size v n xs)
    (ad : Addr) (m c : Nat) (news : List Value) (hx : a.eval x = .slice (some ad) m c) (hl : news.length = m * size) (hnews : ∀ j u, news[j]? = some u → w.cell? (ad.add j) = some u) (h1 : ∀ u ∈ news, u.oneCell' = true)
    (h63 : n + m ≤ maxLen) (hbytes : (n + m) * bytes ≤ 140737488355328) (hbase : base ≤ w.heap.size)
    (h : ∀ v' w', w'.ownsRow base e size v' (n + m) (xs ++ news) → w.grownBy w' v.ownBlock → K (a.put o.dst v') w') :
    if Region.wanted o (yielded ops a.tmps) = true then Oper.wp P o a w K Q else E := by
  have hw : Region.wanted o (yielded ops a.tmps) = true := by simp [Region.wanted, hgd]
  rw [if_pos hw]
  obtain ⟨v', w', hr, h2, h3, _, _⟩ := run_append_own_at (P := P) w base t o.type e i z size bytes ht hi hz hsize hby hzs hsz v n xs hown ad m c news hl hnews h1 h63 hbytes hbase
  unfold Oper.wp execOp
  simp only [ho, resolve, invoke, builtin, Sem.run_bind, Sem.run_pure, Result.andThen_ok, List.map_toArray, List.map_cons, List.map_nil, hs, hx, hr]
  exact h v' w' h2 h3

theorem step_app0 {P : Program} (w : World) {ops : Array Oper} {o : Oper} {a : Act} {K : Act → World → Prop} {Q : Exit → Act → World → Prop} {E : Prop} (hgd : o.guard = none) (s x : Operand) (t : TypeId)
    (ho : o.op = .call { callee := .builtin .append, args := #[s, x], argTypes := #[t, t] })
    (base : Nat) (e : TypeId) (i : TypeInfo) (size : Nat) (ht : P.underlying t = some (.slice e)) (hi : P.info? e = some i)
    (v : Value) (n : Nat) (xs : List Value) (hs : a.eval s = v) (hown : w.ownsRow base e size v n xs) (b : Option Addr) (c : Nat) (hx : a.eval x = .slice b 0 c)
    (h : K (a.put o.dst v) w) : if Region.wanted o (yielded ops a.tmps) = true then Oper.wp P o a w K Q else E := by
  have hw : Region.wanted o (yielded ops a.tmps) = true := by simp [Region.wanted, hgd]
  rw [if_pos hw]
  have hrun := run_append_zero (P := P) (w := w) base t o.type e i size ht hi v n xs hown b c
  unfold Oper.wp execOp
  simp only [ho, resolve, invoke, builtin, Sem.run_bind, Sem.run_pure, Result.andThen_ok, List.map_toArray, List.map_cons, List.map_nil, hs, hx, hrun]
  exact h

theorem step_flat {α : Type} {q : Nat} {E : Elem α} {G : α → Prop} {cs : α → List Value} (hF : Flat q E G cs) (hq : 0 < q) {P : Program} (w : World) {ops : Array Oper} {o : Oper} {a : Act} {K : Act → World → Prop} {Q : Exit → Act → World → Prop} {Ex : Prop} (hgd : o.guard = none) (s x : Operand) (t : TypeId)
    (ho : o.op = .call { callee := .builtin .append, args := #[s, x], argTypes := #[t, t] })
    (base : Nat) (e : TypeId) (i : TypeInfo) (z : Value) (bytes : Nat) (ht : P.underlying t = some (.slice e)) (hi : P.info? e = some i) (hz : i.zero = some z) (hsize : i.size = q) (hby : i.bytes = bytes) (hzs : z.cells.size = q)
    (v : Value) (hs : a.eval s = v) (hown : w.ownsRow base e q v 0 []) (ad : Option Addr) (n c : Nat) (l : List α) (bs : List Nat) (hx : a.eval x = .slice ad n c) (hT : Sl q E w ad l bs) (hn : l.length = n) (hm : n ≤ 1048576) (hb64 : bytes ≤ 64) (hbase : base ≤ w.heap.size)
    (h : ∀ v' w', w'.ownsRow base e q v' l.length (recs (csL q cs l) l.length) → w.grownBy w' v.ownBlock → K (a.put o.dst v') w') :
    if Region.wanted o (yielded ops a.tmps) = true then Oper.wp P o a w K Q else Ex := by
  subst hn
  by_cases h0 : l.length = 0
  · obtain rfl : l = [] := List.length_eq_zero_iff.1 h0
    exact step_app0 w hgd s x t ho base e i q ht hi v 0 [] hs hown ad c hx (h v w hown (World.grownBy.refl _ _))
  · obtain ⟨b, off, f, rfl, hb, hxx⟩ := hT.out (k := 0) (by omega)
    refine step_app w hgd s x t ho base e i z q bytes ht hi hz hsize hby hzs hq v 0 [] hs hown ⟨b, off, none⟩ l.length c (recs (csL q cs l) l.length) hx (recs_len (csL_len hF l) _) (hF.news hq hxx) (hF.ones l) (by unfold maxLen; omega) (by
      rw [Nat.zero_add]
      exact Nat.le_trans (Nat.mul_le_mul hm hb64) (by decide)) hbase ?_
    intro v' w' hown' hgrow
    rw [Nat.zero_add, List.nil_append] at hown'
    exact h v' w' hown' hgrow
/-- Rows of different types lie in different blocks. -/
theorem own_apart {w : World} {lo lo' : Nat} {e e' : TypeId} {q q' n n' : Nat} {v v' : Value} {xs xs' : List Value} (h : w.ownsRow lo e q v n xs) (h' : w.ownsRow lo' e' q' v' n' xs') (hne : e ≠ e') {g : Nat} (hv : v.ownBlock = some g) : v'.ownBlock ≠ some g := by
  intro hv'
  rcases h.2 with ⟨rfl, _⟩ | ⟨g1, cap1, cur1, rfl, _, hb1, _⟩
  · cases hv
  rcases h'.2 with ⟨rfl, _⟩ | ⟨g2, cap2, cur2, rfl, _, hb2, _⟩
  · cases hv'
  have e1 : g1 = g := by simpa [Value.ownBlock] using hv
  have e2 : g2 = g := by simpa [Value.ownBlock] using hv'
  subst e1 e2
  rw [hb1] at hb2
  injection hb2 with hb2
  injection hb2 with _ hb2
  exact hne hb2
theorem own_keepO {w w' : World} {lo lo' : Nat} {e e' : TypeId} {q q' n n' : Nat} {v v' : Value} {xs xs' : List Value} (h : w.ownsRow lo e q v n xs) (h' : w.ownsRow lo' e' q' v' n' xs') (hne : e ≠ e') (hg : w.grownBy w' v'.ownBlock) : w'.ownsRow lo e q v n xs := by
  cases hv : v.ownBlock with
  | none => exact h.kept hg (.inl hv)
  | some k => exact h.kept hg (.inr (by rw [hv]; exact fun e => own_apart h h' hne hv e.symm))
end Go.Proofs.Ytiagdabikbjbiaa
