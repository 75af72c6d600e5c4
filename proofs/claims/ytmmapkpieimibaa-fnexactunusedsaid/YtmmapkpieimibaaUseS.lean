/-
  Who uses a node, in the document's model: the contract.
-/
import Derived.Test.YtmmapkpieimibaaHasC
import Derived.Test.YtmmapkpieimibaaChartF
import Derived.Test.YtmmapkpieimibaaSpecM
namespace Go.Proofs.Ytmmapkpieimibaa
open Go.RowKit Go.Maps

/-- The Ids of the first k ways that go over x. -/
def usersTo (l : List WayD) (x : Int) (k : Nat) : List Int := ((l.take k).filter fun d => decide (x ∈ d.nodes)).map WayD.id
theorem usersTo_yes {l : List WayD} {x : Int} {k : Nat} (hk : k < l.length) (h : x ∈ l[k].nodes) : usersTo l x (k + 1) = usersTo l x k ++ [l[k].id] := by
  unfold usersTo
  rw [List.take_succ_eq_append_getElem hk, List.filter_append, List.map_append, List.filter_cons_of_pos (by simpa using h)]
  rfl
theorem usersTo_no {l : List WayD} {x : Int} {k : Nat} (hk : k < l.length) (h : x ∉ l[k].nodes) : usersTo l x (k + 1) = usersTo l x k := by
  unfold usersTo
  rw [List.take_succ_eq_append_getElem hk, List.filter_append, List.map_append, List.filter_cons_of_neg (by simpa using h)]
  simp
theorem usersTo_len (l : List WayD) (x : Int) (k : Nat) : (usersTo l x k).length ≤ k := by
  unfold usersTo
  rw [List.length_map]
  exact Nat.le_trans (List.length_filter_le _ _) (by rw [List.length_take]; omega)
noncomputable def usersQ (m : MapD) (x : Int) : List Int := if mapB m = true then usersTo m.ways x m.ways.length else []
def intsV (l : List Int) : List Value := l.map (.int .i64)
/-- A row of numbers of the call's own. -/
def OwnI (base : Nat) (w : World) (v : Value) (l : List Int) : Prop := w.ownsRow base 2 1 v l.length (intsV l)
theorem own_base {base base' : Nat} {w : World} {v : Value} {l : List Int} (h : OwnI base w v l) (hb : base' ≤ base) : OwnI base' w v l := by
  obtain ⟨h1, h2⟩ := h
  refine ⟨h1, ?_⟩
  rcases h2 with h2 | ⟨g, cap, cur, e1, e2, e3⟩
  · exact .inl h2
  · exact .inr ⟨g, cap, cur, e1, Nat.le_trans hb e2, e3⟩
theorem own_add {base : Nat} {w : World} {v : Value} {l : List Int} {x : Int} (h : w.ownsRow base 2 1 v (l.length + 1) (intsV l ++ [.int .i64 x])) : OwnI base w v (l ++ [x]) := by
  unfold OwnI intsV
  rw [List.length_append, List.map_append]
  exact h
theorem infoI : (Try.prog.info? 2).map (fun i => (i.zero, i.size, i.bytes)) = some (some (.int .i64 0), 1, 8) := by kernel_rfl

set_option maxRecDepth 100000 in
set_option maxHeartbeats 2000000 in
theorem specUsersOf_any (v : Value) (m : MapD) (bs : List Nat) (x : Int) (w : World) (hV : MapV w v m bs) (hL : MapL m) :
    Calls Try.prog 18 #[v, .int .i64 x] w fun e w' => ∃ v', e = .returned v' ∧ OwnI w.heap.size w' v' (usersQ m x) ∧ Bel w w' := by
  obtain ⟨i0, hi0, hz0, hz1, hz2⟩ := info_parts infoI
  obtain ⟨a0, c0, a1, c1, a2, c2, b0, b1, b2, hv, hbs, t0, t1, t2⟩ := hV.out
  have HL : Hid (MapL m) := hL
  have u1 := hL.u1
  have HU : Hid (∀ i (h : i < m.ways.length), m.ways[i].nodes.length ≤ 1048576 ∧ m.ways[i].tags.length ≤ 1048576) := u1
  obtain ⟨W, HW⟩ : ∃ W, Hid (W = w.alloc (.cells #[.slice a0 m.nodes.length c0, .slice a1 m.ways.length c1, .slice a2 m.areas.length c2] 33)) := ⟨_, (rfl : w.alloc (.cells #[.slice a0 m.nodes.length c0, .slice a1 m.ways.length c1, .slice a2 m.areas.length c2] 33) = _)⟩
  have S0 : Bel w W := by rw [HW.out]; exact bel_alloc (Bel.refl _) _
  have X0 : Blk W w.heap.size [.slice a0 m.nodes.length c0, .slice a1 m.ways.length c1, .slice a2 m.areas.length c2] := by rw [HW.out]; exact Blk.new w [.slice a0 m.nodes.length c0, .slice a1 m.ways.length c1, .slice a2 m.areas.length c2] 33
  have hsz : w.heap.size + 1 = W.heap.size := by rw [HW.out]; simp
  obtain ⟨A, C, A', C', f1, f2, _, hX⟩ := name_ways (t1.bel wayE S0)
  have HX : Hid _ := hX
  clear hX
  obtain ⟨n0, hn0⟩ : ∃ n, m.nodes.length = n := ⟨_, rfl⟩
  obtain ⟨n1, hn1⟩ : ∃ n, m.ways.length = n := ⟨_, rfl⟩
  obtain ⟨n2, hn2⟩ : ∃ n, m.areas.length = n := ⟨_, rfl⟩
  have H1 : Hid (m.ways.length = n1) := hn1
  rw [hn0, hn1, hn2] at HW X0 hv
  subst hv
  have HV : Hid (MapV w (.agg #[.slice a0 n0 c0, .slice a1 n1 c1, .slice a2 n2 c2]) m bs) := hV
  have hVW : MapV (W.alloc (.cells #[] 2)) (.agg #[.slice a0 n0 c0, .slice a1 n1 c1, .slice a2 n2 c2]) m bs := hV.bel (bel_alloc S0 _)
  have hB0 : Bel W (W.alloc (.cells #[] 2)) := bel_alloc (Bel.refl _) _
  have O0 : OwnI W.heap.size (W.alloc (.cells #[] 2)) (.slice (some ⟨W.heap.size, 0, none⟩) 0 0) [] := World.ownsRow_lit W #[] 0 (Nat.le_refl _) (Nat.zero_le _) rfl
  clear hV hL u1 hbs t0 t1 t2 hn0 hn1 hn2
  go_enter Try.func18, Try.ntmps18
  go_wp2_with fail
  rw [← HW.out]
  refine (specMapOk_any _ m bs _ hVW HL.out).mono ?_
  rintro e w1 ⟨rfl, hb1⟩
  have O1 : OwnI W.heap.size w1 (.slice (some ⟨W.heap.size, 0, none⟩) 0 0) [] := own_bel O0 hb1
  have hB1 := bel_step hB0 hb1
  have hB : Bel w w1 := bel_step S0 hB1
  clear hVW O0 hB0 hb1 HW
  by_cases hm : mapB m = true
  · have HQ : Hid (usersQ m x = usersTo m.ways x n1) := (by unfold usersQ; rw [if_pos hm, H1.out] : usersQ m x = usersTo m.ways x n1)
    have hle : n1 ≤ 1000 := by rw [← H1.out]; exact (bP_out hm).n2
    rw [hm]
    clear hm
    go_wp2
    go_loopw [5, 6] (fun o i wr => ∃ k : Nat, k ≤ n1 ∧ i = .int .i64 k ∧ OwnI W.heap.size wr o (usersTo m.ways x k) ∧ Bel W wr) (fun _ i _ => n1 - (intOf i).toNat)
    case atStart => exact ⟨0, Nat.zero_le _, rfl, O1, hB1⟩
    case round =>
      clear O1 hB1 hB
      obtain ⟨k, hk, rfl, hown, hBr⟩ := hrel
      obtain ⟨va, vc, rfl⟩ := own_shape hown
      have Xr := X0.bel hBr
      have o1 : wr.cell? ⟨w.heap.size, 1, none⟩ = some (.slice a1 n1 c1) := Xr.cell 1 (by simp)
      by_cases hlt : k < n1
      · have hkl : k < m.ways.length := by rw [H1.out]; exact hlt
        obtain ⟨b, off, rfl, hb, _, d0, _, _, d1, tt, _, _⟩ := HX.out k hkl
        obtain ⟨d, Hd⟩ : ∃ d, Hid (d = m.ways[k]) := ⟨_, (rfl : m.ways[k] = _)⟩
        have hnl := (HU.out k hkl).1
        rw [← Hd.out] at d0 d1 tt hnl
        have d0 := bel_cellM hBr hb d0
        have d1 := bel_cellM hBr hb d1
        have tt := tt.bel intE hBr
        have hlt' : (k : Int) < (n1 : Int) := by omega
        have hln := usersTo_len m.ways x k
        have HO : Hid (OwnI W.heap.size wr (.slice va (usersTo m.ways x k).length vc) (usersTo m.ways x k)) := hown
        clear hown
        go_wp2_with fail
        refine (l2HasId_any _ _ _ d.nodes _ x _ tt rfl hnl).mono ?_
        rintro e w2 ⟨rfl, rfl⟩
        by_cases hin : x ∈ d.nodes
        · have HE : Hid (usersTo m.ways x (k + 1) = usersTo m.ways x k ++ [d.id]) := by rw [Hd.out] at hin ⊢; exact usersTo_yes hkl hin
          rw [decide_eq_true hin]
          have hown2 := World.ownsRow.alloc HO.out (.cells #[.int .i64 d.id] 2)
          have hBa := bel_alloc hBr (.cells #[.int .i64 d.id] 2)
          clear tt hin
          go_wp2_with (first
            | (at_builtin; refine wpList_append_own _ rfl _ _ 43 rfl W.heap.size 2 i0 (.int .i64 0) 1 8 Try.underlying43 hi0 hz0 hz1 hz2 rfl (by decide) _ _ _ rfl hown2 ⟨w2.heap.size, 0, none⟩ 1 1 [.int .i64 d.id] rfl rfl ?c1 ?c2 ?c3 ?c4 ?c5 ?_)
            | go_in)
          case c1 =>
            intro j u hj
            match j, hj with
            | 0, hj => simp at hj; subst hj; simp [Addr.add]
          case c2 =>
            intro u hu
            simp at hu
            rcases hu with rfl
            rfl
          case c3 => unfold maxLen; omega
          case c4 => omega
          case c5 => have := hBr.out.size; simp; omega
          intro v' w3 hown' hgrow _
          have HO3 : Hid (OwnI W.heap.size w3 v' (usersTo m.ways x (k + 1))) := by rw [HE.out]; exact own_add hown'
          have hB3 : Bel W w3 := bel_grow hBa hgrow (fun j e => (hown2.lt j e).1)
          clear hown' hgrow hown2 hBa HO
          go_wp2
          go_roundw
          case rel => exact ⟨k + 1, by omega, by go_num, HO3.out, hB3⟩
          case measure => simp [intOf]; omega
        · have HE : Hid (usersTo m.ways x (k + 1) = usersTo m.ways x k) := by rw [Hd.out] at hin; exact usersTo_no hkl hin
          rw [decide_eq_false hin]
          clear tt hin
          go_wp2
          go_roundw
          case rel => exact ⟨k + 1, by omega, by go_num, by rw [HE.out]; exact HO.out, hBr⟩
          case measure => simp [intOf]; omega
      · have e : n1 = k := by omega
        subst e
        have HO : Hid (OwnI W.heap.size wr (.slice va (usersTo m.ways x n1).length vc) (usersTo m.ways x n1)) := hown
        clear hown
        go_wp2
        go_ret
        exact ⟨_, rfl, by rw [HQ.out]; exact own_base HO.out S0.out.size, bel_step S0 hBr⟩
  · have hm : mapB m = false := by simpa using hm
    have HQ : Hid (usersQ m x = []) := (by unfold usersQ; rw [hm]; rfl : usersQ m x = [])
    rw [hm]
    clear hm
    go_wp2
    go_ret
    exact ⟨_, rfl, by rw [HQ.out]; exact own_base O1 S0.out.size, hB⟩
end Go.Proofs.Ytmmapkpieimibaa
