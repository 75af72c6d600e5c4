/-
  A map cropped, in the document's model: plain facts, and the memory that the loops turn.
-/
import Derived.Test.YtmmapkpieimibaaGreatBoxC
import Derived.Test.YtmmapkpieimibaaGreatKpG
import Derived.Deep.OwnRows
namespace Go.Proofs.YtmmapkpieimibaaGreat
open Go.RowKit Go.Maps

theorem wkeep {m : MapD} {q : BoxD} (hok : MapOkP m) {k : Nat} (hk : k < m.ways.length) : keptW m q m.ways[k] = wInB m q m.ways[k] := by
  unfold keptW
  cases h : wInB m q m.ways[k]
  · refine bP_false ?_
    rintro ⟨e, he, h1, h2⟩
    obtain ⟨j, hj, rfl⟩ := List.mem_iff_getElem.1 (List.mem_of_mem_take he)
    have : j = k := hok.aw.inj hj hk (by rw [wId_at hj, wId_at hk]; exact h2)
    subst this
    rw [h] at h1
    cases h1
  · exact bP_true ⟨m.ways[k], by rw [List.take_length]; exact List.getElem_mem hk, h, rfl⟩
/-- The nodes that the first k ways with a node in the box need. -/
def kSet (m : MapD) (q : BoxD) (k : Nat) (y : Int) : Prop := ∃ e ∈ m.ways.take k, wInB m q e = true ∧ y ∈ e.nodes
noncomputable def rowP (m : MapD) (q : BoxD) (k j : Nat) : Bool := bP (nIn q (m.nodes.getD j ⟨0, 0, 0, []⟩) ∨ kSet m q k (nId m.nodes j))
noncomputable def rowQ (m : MapD) (q : BoxD) (k : Nat) (ns : List Int) (t j : Nat) : Bool := bP ((nIn q (m.nodes.getD j ⟨0, 0, 0, []⟩) ∨ kSet m q k (nId m.nodes j)) ∨ nId m.nodes j ∈ ns.take t)
noncomputable def rowN0 (m : MapD) (q : BoxD) (k j : Nat) : Bool := if j < k then bP (nIn q (m.nodes.getD j ⟨0, 0, 0, []⟩)) else false
theorem rowQ_zero (m : MapD) (q : BoxD) (k : Nat) (ns : List Int) (j : Nat) : rowQ m q k ns 0 j = rowP m q k j := by unfold rowQ rowP; rw [List.take_zero]; exact congrArg bP (propext ⟨fun h => h.elim id (fun h => nomatch h), .inl⟩)
theorem rowP_yes {m : MapD} {q : BoxD} {k : Nat} {d : WayD} {n3 : Nat} (hk : k < m.ways.length) (hd : d = m.ways[k]) (hn : d.nodes.length = n3) (h : wInB m q d = true) (j : Nat) : rowQ m q k d.nodes n3 j = rowP m q (k + 1) j := by
  unfold rowQ rowP kSet
  rw [← hn, List.take_length]
  refine congrArg bP (propext ?_)
  rw [take_ex hk, ← hd, h]
  constructor
  · rintro ((h1 | h1) | h1)
    · exact .inl h1
    · exact .inr (.inr h1)
    · exact .inr (.inl ⟨rfl, h1⟩)
  · rintro (h1 | ⟨_, h1⟩ | h1)
    · exact .inl (.inl h1)
    · exact .inr h1
    · exact .inl (.inr h1)
theorem rowP_no {m : MapD} {q : BoxD} {k : Nat} {d : WayD} (hk : k < m.ways.length) (hd : d = m.ways[k]) (h : wInB m q d = false) (j : Nat) : rowP m q (k + 1) j = rowP m q k j := by
  unfold rowP kSet
  refine congrArg bP (propext ?_)
  rw [take_ex hk, ← hd, h]
  constructor
  · rintro (h1 | ⟨h1, _⟩ | h1)
    · exact .inl h1
    · cases h1
    · exact .inr h1
  · rintro (h1 | h1)
    · exact .inl h1
    · exact .inr (.inr h1)
theorem rowN0_fin (m : MapD) (q : BoxD) {n j : Nat} (hj : j < n) : rowN0 m q n j = rowP m q 0 j := by
  unfold rowN0 rowP kSet
  rw [if_pos hj]
  exact congrArg bP (propext ⟨.inl, fun h => h.elim id (fun ⟨_, he, _⟩ => by simp at he)⟩)
theorem rowN0_step {m : MapD} {q : BoxD} {k i : Nat} {d : NodeD} {r : Bool} (hk : k < m.nodes.length) (hd : d = m.nodes[k]) (hr : bP (nIn q d) = r) (cb : Bool) : (if i = k then Value.bool r else .bool (if i = k then cb else rowN0 m q k i)) = .bool (rowN0 m q (k + 1) i) := by
  by_cases e : i = k
  · subst e
    unfold rowN0
    rw [if_pos rfl, if_pos (Nat.lt_succ_self _), getD_at _ hk, ← hd, hr]
  · rw [if_neg e, if_neg e]
    unfold rowN0
    by_cases h : i < k
    · rw [if_pos h, if_pos (by omega)]
    · rw [if_neg h, if_neg (by omega)]
theorem rowQ_step {m : MapD} {q : BoxD} (hA : AscP m.nodes.length (nId m.nodes) (nTg m.nodes)) {k i j0 t : Nat} {x : Int} {ns : List Int} {cb : Bool} {p : Nat → Bool} (hi : i < m.nodes.length) (hj : j0 < m.nodes.length) (hI : nId m.nodes j0 = x) (ht : t < ns.length) (hx : x = ns[t]) (hp : p = fun j => rowQ m q k ns t j) :
    (if i = j0 then Value.bool true else .bool (if i = j0 then cb else p i)) = .bool (rowQ m q k ns (t + 1) i) := by
  subst hp
  unfold rowQ
  rw [List.take_succ_eq_append_getElem ht]
  by_cases e : i = j0
  · subst e
    rw [if_pos rfl, bP_true (Or.inr (List.mem_append.2 (Or.inr (List.mem_singleton.2 (hI.trans hx)))))]
  · rw [if_neg e, if_neg e]
    have hne : nId m.nodes i ≠ ns[t] := fun h => e (hA.inj hi hj (by rw [h, hI, hx]))
    exact congrArg (fun p => Value.bool (bP p)) (propext ⟨fun h => h.imp id (fun h => List.mem_append.2 (.inl h)), fun h => h.imp id (fun h => (List.mem_append.1 h).elim id (fun h => absurd (List.mem_singleton.1 h) hne))⟩)
theorem row_fin {m : MapD} {q : BoxD} (hok : MapOkP m) {j : Nat} (hj : j < m.nodes.length) : rowP m q m.ways.length j = keptN m q m.nodes[j] := by
  unfold rowP keptN aSetTo kSet nSetTo
  rw [getD_at _ hj, nId_at hj, List.take_length, List.take_length]
  refine congrArg bP (propext ?_)
  constructor
  · rintro (h | ⟨e, he, h1, h2⟩)
    · exact .inr ⟨_, List.getElem_mem hj, h, rfl⟩
    · obtain ⟨k, hk, rfl⟩ := List.mem_iff_getElem.1 he
      exact .inl ⟨_, he, ⟨_, by rw [List.take_length]; exact he, h1, rfl⟩, h2⟩
  · rintro (⟨e, he, h1, h2⟩ | ⟨e, he, h1, h2⟩)
    · obtain ⟨k, hk, rfl⟩ := List.mem_iff_getElem.1 he
      have := wkeep (q := q) hok hk
      unfold keptW at this
      rw [bP_true h1] at this
      exact .inr ⟨_, he, this.symm, h2⟩
    · obtain ⟨k, hk, rfl⟩ := List.mem_iff_getElem.1 he
      have e : k = j := hok.an.inj hk hj (by rw [nId_at hk, nId_at hj]; exact h2)
      subst e
      exact .inl h1
theorem area_fin {m : MapD} {q : BoxD} (hok : MapOkP m) (y : Int) : wSetTo m q m.ways.length y ↔ ∃ e ∈ m.ways.filter (keptW m q), e.id = y := by
  unfold wSetTo
  rw [List.take_length]
  constructor
  · rintro ⟨e, he, h1, h2⟩
    obtain ⟨k, hk, rfl⟩ := List.mem_iff_getElem.1 he
    exact ⟨_, List.mem_filter.2 ⟨he, by rw [wkeep hok hk]; exact h1⟩, h2⟩
  · rintro ⟨e, he, h2⟩
    obtain ⟨he, h1⟩ := List.mem_filter.1 he
    obtain ⟨k, hk, rfl⟩ := List.mem_iff_getElem.1 he
    exact ⟨_, he, by rw [← wkeep hok hk]; exact h1, h2⟩

/-- As Kp, where a row of marks lies between U and lo. -/
structure Kq {α : Type} (q : Nat) (V : VElem α) (T : TypeId) (K : Nat) (U : World) (lo : Nat) (pre post : List Value) (w : World) (v : Value) (l : List α) (R : Nat → List Value) (f : Nat → List Nat) : Prop where
  gr : Gr q V T lo w v l R f
  box : Blk w K (pre ++ v :: post)
  far : U.grownBy w (some K)
  le : lo ≤ w.heap.size
theorem Kq.start {α : Type} (q : Nat) (V : VElem α) (T : TypeId) {K lo : Nat} {U w : World} {pre post : List Value} (h : Blk w K (pre ++ .slice none 0 0 :: post)) (hf : U.grownBy w (some K)) (hl : lo ≤ w.heap.size) : Kq q V T K U lo pre post w (.slice none 0 0) [] (fun _ => List.replicate q (.bool false)) (fun _ => []) :=
  ⟨Gr.nil _ _ _ _ _, h, hf, hl⟩
theorem Kq.bel {α : Type} {q : Nat} {E : Elem α} {V : VElem α} (hS : VStays q E V) {T : TypeId} {K lo : Nat} {U : World} {pre post : List Value} {w w' : World} {v : Value} {l : List α} {R : Nat → List Value} {f : Nat → List Nat} (h : Kq q V T K U lo pre post w v l R f) (hb : Bel w w') : Kq q V T K U lo pre post w' v l R f :=
  ⟨h.gr.bel hS hb, h.box.bel hb, grown_step h.far hb, Nat.le_trans h.le hb.out.size⟩
theorem Kq.mark {α : Type} {q : Nat} {E : Elem α} {V : VElem α} (hS : VStays q E V) {T : TypeId} {K lo B : Nat} {U : World} {pre post : List Value} {w : World} {v : Value} {l : List α} {R : Nat → List Value} {f : Nat → List Nat} (h : Kq q V T K U lo pre post w v l R f) (hU : U.heap.size ≤ B) (hB : B < lo) (hK : K < U.heap.size) (j : Nat) (u : Value) :
    Kq q V T K U lo pre post (w.setCell ⟨B, j, none⟩ u) v l R f :=
  ⟨h.gr.far hS (grown_set (World.grownBy.refl _ _) _ _) hB, h.box.far (by omega), grown_row h.far (grown_set (World.grownBy.refl _ _) j u) (fun g e => by injection e with e; omega), by simpa [World.setCell] using h.le⟩
theorem Kq.mid {α : Type} {q : Nat} {V : VElem α} {T : TypeId} {K lo : Nat} {U : World} {pre post : List Value} {w w2 w3 : World} {v : Value} {l : List α} {R : Nat → List Value} {f : Nat → List Nat} (h : Kq q V T K U lo pre post w v l R f) (hK : K < lo) (hb : Bel w w2) (hg : w2.grownBy w3 v.ownBlock) : Blk w3 K (pre ++ v :: post) := by
  have hb2 := h.box.bel hb
  have e : w3.heap[K]? = w2.heap[K]? := hg.block K hb2.lt (fun e => by have := (h.gr.own.lt K e.symm).1; omega)
  exact ⟨Nat.lt_of_lt_of_le hb2.lt hg.size, fun j hj => (World.cell?_of_block (a := ⟨K, j, none⟩) e).trans (hb2.cell j hj), fun j => (World.frozen?_of_block (a := ⟨K, j, none⟩) e).trans (hb2.free j)⟩
theorem Kq.step {α : Type} {q : Nat} {E : Elem α} {V : VElem α} (hS : VStays q E V) {T : TypeId} {K lo : Nat} {U : World} {pre post : List Value} {w0 w1 w2 w3 : World} {v v' : Value} {l : List α} {R : Nat → List Value} {f : Nat → List Nat} (h : Kq q V T K U lo pre post w0 v l R f) (hK : K < U.heap.size) (hUl : U.heap.size ≤ lo)
    (h01 : Bel w0 w1) (h12 : Bel w1 w2) {vs : List Value} {d : α} {bs : List Nat} (hv : V w1 vs d bs) (hF : Fresh w0 w1 bs)
    (ho : w3.ownsRow lo T q v' (l.length + 1) (recs R l.length ++ vs)) (hg : w2.grownBy w3 v.ownBlock) (hat : v'.ownBlock = v.ownBlock ∨ v'.ownBlock = some w2.heap.size) :
    ∃ R' f', Kq q V T K U lo pre post (w3.setCell ⟨K, pre.length, none⟩ v') v' (l ++ [d]) R' f' := by
  have g := Gr.add hS h.gr h01 h12 hv hF h.le ho hg hat
  have hm := h.mid (by omega) (bel_step h01 h12) hg
  refine ⟨_, _, g.far hS (grown_set (World.grownBy.refl _ _) _ _) (by omega), ?_, ?_, ?_⟩
  · have := hm.set pre.length v' (by simp)
    rw [set_mid] at this
    exact this
  · exact grown_set (grown_row (grown_step (grown_step h.far h01) h12) hg fun g e => by have := (h.gr.own.lt g e).1; omega) _ _
  · have h1 := h.le
    have h2 := h01.out.size
    have h3 := h12.out.size
    have h4 := hg.size
    have h5 : (w3.setCell ⟨K, pre.length, none⟩ v').heap.size = w3.heap.size := by simp [World.setCell]
    omega

/-- A row of marks of the call's own, of which one may be turned. -/
structure Uc (W : World) (B n j0 : Nat) (p : Nat → Bool) (w : World) : Prop where
  b : Bel W w
  r : ∃ c : Bool, w.rowIs B 4 n (fun j => .bool (if j = j0 then c else p j))
theorem Uc.drew {W : World} {B n j0 : Nat} {p : Nat → Bool} {a : World} (h : Uc W B n j0 p a) : Uc W B n j0 p a.drew := ⟨h.b.drew, h.r.imp fun _ k => k.drew⟩
theorem Uc.bel {W : World} {B n j0 : Nat} {p : Nat → Bool} {a b : World} (h : Uc W B n j0 p a) (k : Bel a b) : Uc W B n j0 p b :=
  ⟨bel_step h.b k, h.r.imp fun _ r => r.of_block (k.out.block B r.lt)⟩
theorem Uc.set {W : World} {B n j0 : Nat} {p : Nat → Bool} {a : World} (h : Uc W B n j0 p a) (hB : W.heap.size ≤ B) (c : Bool) : Uc W B n j0 p (a.setCell ⟨B, j0, none⟩ (.bool c)) :=
  ⟨bel_set h.b hB _, c, by
    obtain ⟨c0, r⟩ := h.r
    exact (r.set j0 (.bool c)).congr fun i _ => by by_cases e : i = j0 <;> simp [e]⟩
theorem Uc.start {W : World} {B n j0 : Nat} {p : Nat → Bool} {a : World} (h : Bel W a) (r : a.rowIs B 4 n (fun j => .bool (p j))) : Uc W B n j0 p a :=
  ⟨h, p j0, r.congr fun i _ => by by_cases e : i = j0 <;> simp [e]⟩
theorem infoBl : (Tryz.prog.info? 4).map (fun i => (i.zero, i.size, i.bytes)) = some (some (.bool false), 1, 1) := by kernel_rfl

set_option maxRecDepth 100000 in
set_option maxHeartbeats 1000000 in
theorem l2WayHas_any (s0 s2 : Value) (h0 : ∃ a n c, s0 = .slice a n c) (h2 : ∃ a n c, s2 = .slice a n c) (a : Option Addr) (n c : Nat) (l : List WayD) (bs : List Nat) (x : Int) (r : Bool) (w : World) (hT : Ways w a l bs) (hn : l.length = n) (hm : n ≤ 1048576) (hr : bP (∃ e ∈ l, e.id = x) = r) :
    Calls Tryz.prog 26 #[.agg #[s0, .slice a n c, s2], .int .i64 x] w fun e w' => ∃ z : Int, e = .returned (.int .i64 z) ∧ decide (0 ≤ z) = r ∧ Bel w w' := by
  obtain ⟨p0, p1, p2, rfl⟩ := h0
  obtain ⟨p3, p4, p5, rfl⟩ := h2
  have Hn : Hid (l.length = n) := hn
  have HR : Hid (bP (∃ e ∈ l, e.id = x) = r) := hr
  have hB : Bel w (w.alloc (.cells #[.slice p0 p1 p2, .slice a n c, .slice p3 p4 p5] 36)) := bel_alloc (Bel.refl _) _
  have hT' := hT.bel wayE hB
  clear hT hn hr
  go_enter Tryz.func26, Tryz.ntmps26
  go_wp2
  go_loop [5] (fun i => ∃ k : Nat, k ≤ n ∧ i = .int .i64 k ∧ Hid (∀ j (h : j < l.length), j < k → l[j].id ≠ x)) (fun i => n - (intOf i).toNat)
  case atStart => exact ⟨0, Nat.zero_le _, rfl, (fun j _ hj => absurd hj (Nat.not_lt_zero _) : ∀ j (h : j < l.length), j < 0 → l[j].id ≠ x)⟩
  case round =>
    obtain ⟨k, hk, rfl, HS⟩ := hrel
    by_cases hlt : k < n
    · have hkl : k < l.length := by rw [Hn.out]; exact hlt
      obtain ⟨b, off, f, rfl, hb, hx⟩ := hT'.out hkl
      obtain ⟨_, cx, _⟩ := hx k hkl
      obtain ⟨y, Hy⟩ : ∃ y, Hid (y = l[k].id) := ⟨_, (rfl : l[k].id = _)⟩
      rw [← Hy.out] at cx
      have hlt' : (k : Int) < (n : Int) := by omega
      clear hx hT'
      by_cases he : y = x
      · have HE : Hid (decide ((0 : Int) ≤ (k : Int)) = r) := by
          rw [← HR.out, bP_true ⟨l[k], List.getElem_mem hkl, Hy.out.symm.trans he⟩]; exact decide_eq_true (Int.natCast_nonneg k)
        have he' : (y == x) = true := by simp [he]
        go_wp2
        go_ret
        exact ⟨_, rfl, HE.out, hB⟩
      · have he' : (y == x) = false := by simp [he]
        have HN : Hid (l[k].id ≠ x) := by rw [← Hy.out]; exact he
        clear he
        go_wp2
        go_round
        case rel => exact ⟨k + 1, by omega, by go_num, (fun j h hj => by
            by_cases e : j = k
            · subst e; exact HN.out
            · exact HS.out j h (by omega) : ∀ j (h : j < l.length), j < k + 1 → l[j].id ≠ x)⟩
        case measure => simp [intOf]; omega
    · have HE : Hid (decide ((0 : Int) ≤ -1) = r) := by
        rw [← HR.out, bP_false fun ⟨e, he, h⟩ => by
          obtain ⟨j, hj, rfl⟩ := List.mem_iff_getElem.1 he
          have := Hn.out
          exact HS.out j hj (by omega) h]
        rfl
      clear hT'
      go_wp2
      go_ret
      exact ⟨_, rfl, HE.out, hB⟩
end Go.Proofs.YtmmapkpieimibaaGreat
