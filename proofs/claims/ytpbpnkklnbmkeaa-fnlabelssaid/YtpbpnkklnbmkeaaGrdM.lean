/-
  A map from squares to rows, as a function: what is looked up, what an entry is given.
-/
import Derived.Test.YtpbpnkklnbmkeaaKeyC
import Derived.WideKeyEntry
import Derived.DeepKeys5
namespace Go.Proofs.Ytpbpnkklnbmkeaa
open Go.RowKit Go.Maps Go.WideElems
open Go.ChangeMaps (setBlock heap_setBlock_same heap_setBlock_other)

/-- A square as a key, and as a key's bytes. -/
def sqV (c r : Int) : Value := .agg #[.int .i64 c, .int .i64 r]
def sqL (c r : Int) : Lit := .string (keyBytes [.int .i64 c, .int .i64 r])
theorem sq_laid : laidOutB Try.prog = true := by kernel_rfl
theorem sq_cells : Try.prog.cellsOf 101 = 2 := by kernel_rfl
theorem sq_one : Try.prog.cellsOf 2 = 1 := by kernel_rfl
theorem sq_keyType : Try.prog.keyType 101 = true := by kernel_rfl
theorem sq_wide : (match Try.prog.underlying 101 with | some (.array _ _) | some (.struct _) => true | _ => false) = true := by rw [Try.underlying101]
set_option maxRecDepth 100000 in
theorem lawK : WideMaps.KeyLaw Try.prog 101 := deep_law_laid sq_laid (m := 2) (by omega) (of_decide_eq_true (by kernel_rfl)) (by kernel_rfl) sq_wide
theorem lawS : Keyed Try.prog 101 := Keyed.of_law lawK
theorem zeroS (w : World) : (zeroValue 102).run Try.prog w = .ok (.slice none 0 0) w := by kernel_rfl
theorem types_succ : ∃ m, Try.prog.types.size = m + 1 := ⟨Try.prog.types.size - 1, by have : 0 < Try.prog.types.size := of_decide_eq_true (by kernel_rfl); omega⟩
theorem keyS {c r : Int} (hc : In64 c) (hr : In64 r) : keyOf Try.prog 101 (sqV c r) = some (sqL c r) := by
  obtain ⟨m, hm⟩ := types_succ
  unfold keyOf sqV
  simp only [Try.underlying101]
  rw [if_pos (by simp [sq_keyType, Value.formed, Try.underlying101, sq_cells]), hm]
  unfold Program.keyLits
  simp only [Try.underlying101, Value.cells]
  rw [if_pos (by rw [sq_cells]; simp)]
  simp [sq_one, Program.keyLits, Try.underlying2, wf_in hc, wf_in hr, sqL]
theorem sqL_key (c r : Int) : WideAt.IsKeyLit (sqL c r) := trivial
theorem sqL_ne {c r c' r' : Int} (hc : In64 c) (hr : In64 r) (hc' : In64 c') (hr' : In64 r') (h : ¬ (c = c' ∧ r = r')) : sqL c r ≠ sqL c' r' := fun e => h (by
  have h2 := keyS hc' hr'
  rw [← e] at h2
  have := lawS.inj (keyS hc hr) h2
  simp [sqV] at this
  exact this)

/-- An entry's value as it is. -/
def heldR (v : Value) : Option (DataW Value × List MemPlace) := some (.held v, [])
/-- A map whose value at the square (c, r) is V c r. -/
def GMap (w : World) (b n : Nat) (V : Int → Int → Value) : Prop :=
  ∃ D : DataW Value, w.ownsMap Try.prog 101 heldR b n D ∧ IsMap D ∧ ∀ c r, In64 c → In64 r → D.atKey (sqL c r) (.held (.slice none 0 0)) = .held (V c r)
theorem GMap.new (w : World) : GMap (w.alloc (.map #[] 0)) w.heap.size 0 (fun _ _ => .slice none 0 0) :=
  ⟨.map [], World.ownsMap_made w _ _ _, isMap_empty, fun _ _ _ _ => rfl⟩
theorem GMap.lt {w : World} {b n : Nat} {V : Int → Int → Value} (h : GMap w b n V) : b < w.heap.size := by
  obtain ⟨D, h1, _⟩ := h; exact h1.lt
theorem GMap.same {w w' : World} {b n : Nat} {V : Int → Int → Value} (h : GMap w b n V) (hb : w'.heap[b]? = w.heap[b]?) : GMap w' b n V := by
  obtain ⟨D, ⟨es, clock, h1, h2⟩, h3⟩ := h
  exact ⟨D, ⟨es, clock, by rw [hb]; exact h1, h2⟩, h3⟩
theorem GMap.map {w : World} {b n : Nat} {V : Int → Int → Value} (h : GMap w b n V) : ∃ es clock, w.heap[b]? = some (.map es clock) := by
  obtain ⟨D, ⟨es, clock, h1, h2⟩, h3⟩ := h
  exact ⟨es, clock, h1⟩
set_option maxRecDepth 100000 in
theorem GMap.look {w : World} {b n : Nat} {V : Int → Int → Value} (h : GMap w b n V) {c r : Int} (hc : In64 c) (hr : In64 r) :
    (Instr.lookup 62 (.map (some b)) (sqV c r) false).run Try.prog w = .ok (V c r) w := by
  obtain ⟨D, ⟨es, clock, hb, F, hs, rfl⟩, _, hV⟩ := h
  have hV := hV c r hc hr
  rcases fit_look false lawS Try.underlying62 (zeroS w) hb F (keyS hc hr) with ⟨hrun, _, hat⟩ | ⟨e0, y, _, _, hrun, hy, hat, _⟩
  · rw [hrun]
    rw [hat] at hV
    injection hV with hV
    rw [← hV]; rfl
  · rw [hrun]
    rw [hat] at hV
    cases hy
    injection hV with hV
    rw [← hV]; rfl
set_option maxRecDepth 100000 in
/-- An entry's place, and a value that is stored there later. -/
theorem GMap.entry {w : World} {b n : Nat} {V : Int → Int → Value} (h : GMap w b n V) (hn : n < maxLen) {c r : Int} (hc : In64 c) (hr : In64 r) :
    ∃ (st : Nat) (es1 : Array MapEntry) (clock1 : Nat), (Instr.mapEntry 62 (.map (some b)) (sqV c r)).run Try.prog w = .ok (.tuple #[V c r, goInt st]) (setBlock w b (.map es1 clock1)) ∧
      ∀ (w2 : World) (val : Value), w2.heap[b]? = some (.map es1 clock1) → ∃ es' clock', (Instr.entryStore 62 (.map (some b)) (goInt st) val).run Try.prog w2 = .ok () (setBlock w2 b (.map es' clock')) ∧
        GMap (setBlock w2 b (.map es' clock')) b (n + 1) (fun c' r' => if c' = c ∧ r' = r then val else V c' r') := by
  have hlook := h.look hc hr
  obtain ⟨D, ⟨es, clock, hb, F, hs, rfl⟩, hm, hV⟩ := h
  obtain ⟨v0, st, es1, clock1, hrun, hv, hst⟩ := entry_then_store lawK Try.underlying62 zeroS hb F (keyS hc hr)
  have hv0 : v0 = V c r := by
    have hV := hV c r hc hr
    rcases fit_look false lawS Try.underlying62 (zeroS w) hb F (keyS hc hr) with ⟨_, hno, hat⟩ | ⟨e0, y, hm0, hk0, _, hy, hat, _⟩
    · rw [hat] at hV
      injection hV with hV
      rcases hv with ⟨e0, h1, h2, _⟩ | ⟨_, h2⟩
      · exact absurd h2 (hno e0 h1)
      · rw [h2, hV]
    · rw [hat] at hV
      cases hy
      injection hV with hV
      rcases hv with ⟨e1, h1, h2, h3⟩ | ⟨h2, _⟩
      · have e : e1 = e0 := by
          obtain ⟨i, hi, rfl⟩ := List.mem_iff_getElem.1 h1
          obtain ⟨j, hj, rfl⟩ := List.mem_iff_getElem.1 hm0
          by_cases hij : i = j
          · subst hij; rfl
          · exact absurd (h2.trans hk0.symm) (other_key F (List.getElem?_eq_getElem hj) (List.getElem?_eq_getElem hi) hij)
        rw [h3, e, hV]
      · exact absurd hk0 (h2 e0 hm0)
  subst hv0
  refine ⟨st, es1, clock1, hrun, fun w2 val hw2 => ?_⟩
  obtain ⟨es', clock', h1, h2⟩ := hst w2 val hw2
  obtain ⟨es2, clock2, h3, F2, hput, _⟩ := fit_store (R' := heldR) (val := val) (yv := (.held val, [])) lawS Try.underlying62 hb F (by omega) (fun _ _ _ _ h => h) (keyS hc hr) rfl
  rw [h2] at h3
  have e : setBlock w b (.map es' clock') = setBlock w b (.map es2 clock2) := by simpa using h3
  have e2 : (Obj.map es' clock') = .map es2 clock2 := by
    have := heap_setBlock_same hb (.map es' clock')
    rw [e, heap_setBlock_same hb] at this
    simpa using this.symm
  obtain ⟨rfl, rfl⟩ : es' = es2 ∧ clock' = clock2 := by injection e2 with e2 e3; exact ⟨e2, e3⟩
  refine ⟨es', clock', h1, _, ⟨es', clock', heap_setBlock_same hw2 _, F2, ?_, rfl⟩, ⟨_, rfl⟩, fun c' r' hc' hr' => ?_⟩
  · have e1 : es'.size = ((es'.toList.map (rg Try.prog 101 heldR)).foldr DataW.insert []).length := by rw [length_sorted]; simp
    rw [e1, hput]
    unfold ChangeMaps.putKey
    rw [length_insert]
    have e2 := List.length_filter_le (ChangeMaps.notKey (sqL c r)) ((es.toList.map (rg Try.prog 101 heldR)).foldr DataW.insert [])
    rw [length_sorted] at e2
    simp at e2
    omega
  · rw [hput, ← DataW.put_eq]
    show _ = DataW.held (if c' = c ∧ r' = r then val else V c' r')
    by_cases e : c' = c ∧ r' = r
    · obtain ⟨rfl, rfl⟩ := e
      rw [if_pos ⟨rfl, rfl⟩]
      exact atKey_put_same hm (sqL_key _ _) _ _
    · rw [if_neg e, ← hV c' r' hc' hr']
      exact atKey_put_other (sqL_ne hc' hr' hc hr e) _ _
end Go.Proofs.Ytpbpnkklnbmkeaa
