/-
  Rows of plain elements (numbers, texts, yes and no): copied by append.
-/
import Derived.Test.YtiagdabikbjbiaaRowG
import Derived.Test.YtiagdabikbjbiaaChartO
import Derived.Laws.AppendOwnNone
namespace Go.Proofs.Ytiagdabikbjbiaa
open Go.RowKit Go.Maps

/-- An element that leads nowhere: its cells. -/
structure Flat {α : Type} (q : Nat) (E : Elem α) (P : α → Prop) (cs : α → List Value) : Prop where
  len : ∀ d, (cs d).length = q
  one : ∀ d, ∀ u ∈ cs d, u.oneCell' = true
  get : ∀ {w : World} {b o : Nat} {d : α} {bs : List Nat}, E w b o d bs → P d ∧ ∀ j (h : j < (cs d).length), w.cell? ⟨b, o + j, none⟩ = some (cs d)[j]
  lay : ∀ {w : World} {b o : Nat} {d : α}, P d → (∀ j (h : j < (cs d).length), w.cell? ⟨b, o + j, none⟩ = some (cs d)[j]) → E w b o d []
def flatV {α : Type} (P : α → Prop) (cs : α → List Value) : VElem α := fun _ vs d bs => bs = [] ∧ P d ∧ vs = cs d
theorem Flat.stays {α : Type} {q : Nat} {E : Elem α} {P : α → Prop} {cs : α → List Value} (hF : Flat q E P cs) : VStays q E (flatV P cs) :=
  ⟨fun ⟨_, _, e⟩ => by rw [e]; exact hF.len _, fun ⟨_, _, e⟩ => by rw [e]; exact hF.one _, fun h _ => h, fun ⟨e, _⟩ x hx => by rw [e] at hx; (exact nomatch hx), fun ⟨e, hp, hv⟩ hc => by subst e; subst hv; exact hF.lay hp hc⟩
def csL {α : Type} (q : Nat) (cs : α → List Value) (l : List α) (i : Nat) : List Value := if h : i < l.length then cs l[i] else List.replicate q (.bool false)
theorem csL_at {α : Type} {q : Nat} {cs : α → List Value} {l : List α} {i : Nat} (h : i < l.length) : csL q cs l i = cs l[i] := by simp [csL, h]
theorem csL_len {α : Type} {q : Nat} {E : Elem α} {P : α → Prop} {cs : α → List Value} (hF : Flat q E P cs) (l : List α) (i : Nat) : (csL q cs l i).length = q := by
  unfold csL
  split
  · exact hF.len _
  · simp
theorem addr_add (b off j : Nat) : (⟨b, off, none⟩ : Addr).add j = ⟨b, off + j, none⟩ := by unfold Addr.add; split <;> simp_all
theorem Flat.news {α : Type} {q : Nat} {E : Elem α} {P : α → Prop} {cs : α → List Value} (hF : Flat q E P cs) (hq : 0 < q) {w : World} {b off : Nat} {l : List α} {f : Nat → List Nat} (hx : ∀ i (h : i < l.length), E w b (off + i * q) l[i] (f i)) :
    ∀ j u, (recs (csL q cs l) l.length)[j]? = some u → w.cell? ((⟨b, off, none⟩ : Addr).add j) = some u := by
  intro j u hu
  rw [addr_add]
  have hlt : j < l.length * q := by
    have := (List.getElem?_eq_some_iff.1 hu).1
    rwa [recs_len (csL_len hF l)] at this
  have hi : j / q < l.length := Nat.div_lt_of_lt_mul (by rw [Nat.mul_comm]; exact hlt)
  have hr : j % q < q := Nat.mod_lt _ hq
  have e : j = j / q * q + j % q := by rw [Nat.mul_comm]; exact (Nat.div_add_mod j q).symm
  rw [e, recs_at (csL_len hF l) hr _ hi, csL_at hi] at hu
  obtain ⟨hj, hu⟩ := List.getElem?_eq_some_iff.1 hu
  rw [e, ← Nat.add_assoc, (hF.get (hx _ hi)).2 _ hj, hu]
theorem Flat.ones {α : Type} {q : Nat} {E : Elem α} {P : α → Prop} {cs : α → List Value} (hF : Flat q E P cs) (l : List α) : ∀ u ∈ recs (csL q cs l) l.length, u.oneCell' = true := by
  intro u hu
  obtain ⟨i, hi, hu⟩ := List.mem_flatMap.1 hu
  rw [csL_at (List.mem_range.1 hi)] at hu
  exact hF.one _ u hu
theorem Flat.out {α : Type} {q : Nat} {E : Elem α} {P : α → Prop} {cs : α → List Value} (hF : Flat q E P cs) {T : TypeId} {lo : Nat} {w : World} {v : Value} {l : List α} (h : w.ownsRow lo T q v l.length (recs (csL q cs l) l.length)) (hP : ∀ i (h : i < l.length), P l[i]) :
    ∃ a c bs, v = .slice a l.length c ∧ Sl q E w a l bs ∧ Mine lo w bs :=
  Gr.out hF.stays (f := fun _ => []) ⟨h, csL_len hF l, fun i hi => ⟨rfl, hP i hi, csL_at hi⟩, (fun _ _ x hx => nomatch hx), by rw [show (List.range l.length).flatMap (fun _ => ([] : List Nat)) = [] from List.flatMap_eq_nil_iff.2 (fun _ _ => rfl)]; exact List.nodup_nil⟩

def TagP (d : TagD) : Prop := d.k.size ≤ maxLen ∧ d.v.size ≤ maxLen
def tagCs (d : TagD) : List Value := [.string d.k, .string d.v]
theorem tagF : Flat 2 TagE TagP tagCs :=
  ⟨fun _ => rfl, fun _ u hu => by simp only [tagCs, List.mem_cons, List.not_mem_nil, or_false] at hu; rcases hu with rfl | rfl <;> rfl,
    fun ⟨_, h1, h2, h3, h4⟩ => ⟨⟨h1, h2⟩, fun j hj => by match j, hj with | 0, _ => exact h3 | 1, _ => exact h4⟩,
    fun hp hc => ⟨rfl, hp.1, hp.2, hc 0 (by simp [tagCs]), hc 1 (by simp [tagCs])⟩⟩
def PartP (d : PartD) : Prop := In64 d.way
def partCs (d : PartD) : List Value := [.int .i64 d.way, .bool d.inner]
theorem partF : Flat 2 PartE PartP partCs :=
  ⟨fun _ => rfl, fun _ u hu => by simp only [partCs, List.mem_cons, List.not_mem_nil, or_false] at hu; rcases hu with rfl | rfl <;> rfl,
    fun ⟨_, h1, h3, h4⟩ => ⟨h1, fun j hj => by match j, hj with | 0, _ => exact h3 | 1, _ => exact h4⟩,
    fun hp hc => ⟨rfl, hp, hc 0 (by simp [partCs]), hc 1 (by simp [partCs])⟩⟩
def intCs (d : Int) : List Value := [.int .i64 d]
theorem intF : Flat 1 IntE In64 intCs :=
  ⟨fun _ => rfl, fun _ u hu => by simp only [intCs, List.mem_cons, List.not_mem_nil, or_false] at hu; rcases hu with rfl; rfl,
    fun ⟨_, h1, h3⟩ => ⟨h1, fun j hj => by match j, hj with | 0, _ => exact h3⟩,
    fun hp hc => ⟨rfl, hp, hc 0 (by simp [intCs])⟩⟩

theorem run_append_zero {P : Program} {w : World} (base : Nat) (t ty e : TypeId) (i : TypeInfo) (size : Nat) (ht : P.underlying t = some (.slice e)) (hi : P.info? e = some i)
    (v : Value) (n : Nat) (xs : List Value) (hown : w.ownsRow base e size v n xs) (a : Option Addr) (c : Nat) :
    (Builtin.append_ #[t, t] ty #[v, .slice a 0 c]).run P w = .ok v w := by
  cases a with
  | none =>
    rcases hown.2 with ⟨rfl, rfl⟩ | ⟨g, cap, cur, rfl, _, _, hnc, _⟩
    · simp [Builtin.append_, run_underlying ht, sizeOf, typeInfo, hi, Builtin.lenOf, Builtin.firstCells]
    · simp [Builtin.append_, run_underlying ht, sizeOf, typeInfo, hi, Builtin.lenOf, Builtin.firstCells, hnc, storeCells]
  | some ad =>
    rcases hown.2 with ⟨rfl, rfl⟩ | ⟨g, cap, cur, rfl, _, _, hnc, _⟩
    · simp [Builtin.append_, run_underlying ht, sizeOf, typeInfo, hi, Builtin.lenOf, Builtin.firstCells, loadCells, loadCellsFrom]
    · simp [Builtin.append_, run_underlying ht, sizeOf, typeInfo, hi, Builtin.lenOf, Builtin.firstCells, hnc, storeCells, loadCells, loadCellsFrom]
theorem wpList_append_zero {P : Program} {w : World} {ops : Array Oper} {rest : List Oper} {o : Oper} {a : Act} {Q : Exit → Act → World → Prop} (hgd : o.guard = none) (s x : Operand) (t : TypeId)
    (ho : o.op = .call { callee := .builtin .append, args := #[s, x], argTypes := #[t, t] })
    (base : Nat) (e : TypeId) (i : TypeInfo) (size : Nat) (ht : P.underlying t = some (.slice e)) (hi : P.info? e = some i)
    (v : Value) (n : Nat) (xs : List Value) (hs : a.eval s = v) (hown : w.ownsRow base e size v n xs) (b : Option Addr) (c : Nat) (hx : a.eval x = .slice b 0 c)
    (h : wpList P ops Q rest (a.put o.dst v) w) : wpList P ops Q (o :: rest) a w := by
  refine wpList_plain hgd fun K hK => ?_
  have hrun := run_append_zero (P := P) (w := w) base t o.type e i size ht hi v n xs hown b c
  unfold Oper.wp
  simp [execOp, ho, resolve, invoke, builtin, hs, hx, hrun, Result.andThen]
  exact hK _ _ h
theorem Alike.set {w a : World} {bs : List Nat} (h : Alike w a bs) {B : Nat} (hB : B ∉ bs) (o : Nat) (u : Value) : Alike w (a.setCell ⟨B, o, none⟩ u) bs := fun b hb => by
  obtain ⟨h1, h2, h3⟩ := h b hb
  refine ⟨by simpa [World.setCell] using h1, fun j => ?_, fun j => by rw [World.frozen?_setCell]; exact h3 j⟩
  rw [World.cell?_setCell_other _ _ _ _ (fun e => hB (by have := congrArg Addr.block e; simp at this; rw [this]; exact hb))]
  exact h2 j
theorem Alike.refl {w : World} {bs : List Nat} (h : ∀ x ∈ bs, x < w.heap.size) : Alike w w bs := fun b hb => ⟨h b hb, fun _ => rfl, fun _ => rfl⟩
theorem Mine.alike {lo : Nat} {w w' : World} {bs : List Nat} (h : Mine lo w bs) (hA : Alike w w' bs) : Mine lo w' bs :=
  ⟨h.nd, fun b hm => ⟨(h.new b hm).1, (hA b hm).1⟩, fun b hm j => by rw [(hA b hm).2.2 j]; exact h.free b hm j⟩

/-- append of a plain list to an empty row of the call's own. -/
theorem wpList_append_flat {α : Type} {q : Nat} {E : Elem α} {G : α → Prop} {cs : α → List Value} (hF : Flat q E G cs) (hq : 0 < q) {P : Program} {w : World} {ops : Array Oper} {rest : List Oper} {o : Oper} {a : Act} {Q : Exit → Act → World → Prop} (hgd : o.guard = none) (s x : Operand) (t : TypeId)
    (ho : o.op = .call { callee := .builtin .append, args := #[s, x], argTypes := #[t, t] })
    (base : Nat) (e : TypeId) (i : TypeInfo) (z : Value) (bytes : Nat) (ht : P.underlying t = some (.slice e)) (hi : P.info? e = some i) (hz : i.zero = some z) (hsize : i.size = q) (hby : i.bytes = bytes) (hzs : z.cells.size = q)
    (v : Value) (hs : a.eval s = v) (hown : w.ownsRow base e q v 0 []) (ad : Option Addr) (n c : Nat) (l : List α) (bs : List Nat) (hx : a.eval x = .slice ad n c) (hT : Sl q E w ad l bs) (hn : l.length = n) (hm : n ≤ 1048576) (hb64 : bytes ≤ 64) (hbase : base ≤ w.heap.size)
    (h : ∀ a' c' bs' w', Sl q E w' a' l bs' → Mine base w' bs' → w.grownBy w' v.ownBlock → wpList P ops Q rest (a.put o.dst (.slice a' n c')) w') : wpList P ops Q (o :: rest) a w := by
  subst hn
  by_cases h0 : l.length = 0
  · obtain ⟨a', c', e'⟩ := own_shape hown
    have hl : l = [] := List.length_eq_zero_iff.1 h0
    subst hl
    refine wpList_append_zero hgd s x t ho base e i q ht hi v 0 [] hs hown ad c hx ?_
    rw [e']
    exact h a' c' [] w Sl.nil ⟨List.nodup_nil, (fun _ h => nomatch h), (fun _ h => nomatch h)⟩ (World.grownBy.refl _ _)
  · obtain ⟨b, off, f, rfl, hb, hxx⟩ := hT.out (k := 0) (by omega)
    refine wpList_append_own w hgd s x t ho base e i z q bytes ht hi hz hsize hby hzs hq v 0 [] hs hown ⟨b, off, none⟩ l.length c (recs (csL q cs l) l.length) hx (recs_len (csL_len hF l) _) (hF.news hq hxx) (hF.ones l) (by unfold maxLen; omega) (by
      rw [Nat.zero_add]
      exact Nat.le_trans (Nat.mul_le_mul hm hb64) (by decide)) hbase ?_
    intro v' w' hown' hgrow _
    rw [Nat.zero_add, List.nil_append] at hown'
    obtain ⟨a', c', bs', rfl, HS, HM⟩ := hF.out hown' (fun i hi => (hF.get (hxx i hi)).1)
    exact h a' c' bs' w' HS HM hgrow
end Go.Proofs.Ytiagdabikbjbiaa
