/-
  The nodes that nothing uses, in the program: the contract.
-/
import Derived.Test.YtmmapkpieimibaaUseS
namespace Go.Proofs.Ytmmapkpieimibaa
open Go.RowKit Go.Maps

/-- How many nodes the first k ways name; which. -/
def cntTo (l : List WayD) : Nat → Nat
  | 0 => 0
  | k + 1 => cntTo l k + (l.getD k ⟨0, [], []⟩).nodes.length
theorem cntTo_le {l : List WayD} (h : ∀ i (h : i < l.length), l[i].nodes.length ≤ 2000) : ∀ k, k ≤ l.length → cntTo l k ≤ k * 2000
  | 0, _ => by simp [cntTo]
  | k + 1, hk => by
    have h1 := cntTo_le h k (by omega)
    have h2 := h k (by omega)
    simp only [cntTo, getD_at ⟨0, [], []⟩ (show k < l.length by omega)]
    omega
def usedTo (l : List WayD) (k : Nat) (y : Int) : Prop := ∃ d ∈ l.take k, y ∈ d.nodes
theorem usedTo_zero (l : List WayD) : usedTo l 0 = fun _ => False := by
  funext y
  simp [usedTo]
theorem usedTo_succ {l : List WayD} {k : Nat} (hk : k < l.length) : (fun y => y ∈ l[k].nodes ∨ usedTo l k y) = usedTo l (k + 1) := by
  funext y
  unfold usedTo
  rw [List.take_succ_eq_append_getElem hk]
  simp only [List.mem_append, List.mem_singleton, eq_iff_iff]
  constructor
  · rintro (h | ⟨d, hd, h⟩)
    · exact ⟨_, .inr rfl, h⟩
    · exact ⟨d, .inl hd, h⟩
  · rintro ⟨d, hd | rfl, h⟩
    · exact .inr ⟨d, hd, h⟩
    · exact .inl h
/-- The Ids of the first k nodes that have no tags and lie on no way. -/
noncomputable def unuTo (m : MapD) (k : Nat) : List Int := ((m.nodes.take k).filter fun d => decide (d.tags.length = 0) && !bP (usedTo m.ways m.ways.length d.id)).map NodeD.id
theorem unuTo_yes {m : MapD} {k : Nat} (hk : k < m.nodes.length) (h1 : m.nodes[k].tags.length = 0) (h2 : bP (usedTo m.ways m.ways.length m.nodes[k].id) = false) : unuTo m (k + 1) = unuTo m k ++ [m.nodes[k].id] := by
  unfold unuTo
  rw [List.take_succ_eq_append_getElem hk, List.filter_append, List.map_append, List.filter_cons_of_pos (by rw [h2, h1]; rfl)]
  rfl
theorem unuTo_no {m : MapD} {k : Nat} (hk : k < m.nodes.length) (h : m.nodes[k].tags.length ≠ 0 ∨ bP (usedTo m.ways m.ways.length m.nodes[k].id) = true) : unuTo m (k + 1) = unuTo m k := by
  unfold unuTo
  rw [List.take_succ_eq_append_getElem hk, List.filter_append, List.map_append, List.filter_cons_of_neg (by
    rcases h with h | h
    · rw [decide_eq_false h]; exact Bool.false_ne_true
    · rw [h, Bool.not_true, Bool.and_false]; exact Bool.false_ne_true)]
  simp
theorem unuTo_len (m : MapD) (k : Nat) : (unuTo m k).length ≤ k := by
  unfold unuTo
  rw [List.length_map]
  exact Nat.le_trans (List.length_filter_le _ _) (by rw [List.length_take]; omega)
noncomputable def unuQ (m : MapD) : List Int := if mapB m = true then unuTo m m.nodes.length else []

theorem tagged_any (i : Int) (a : Option Addr) (n c : Nat) (w : World) (hn : n ≤ 1048576) :
    Calls Try.prog 51 #[.agg #[.int .i64 i, .slice a n c]] w fun e w' => e = .returned (.bool (decide (n ≠ 0))) ∧ Bel w w' := by
  have hB : Bel w (w.alloc (.cells #[.int .i64 i, .slice a n c] 85)) := bel_alloc (Bel.refl _) _
  go_enter Try.func51, Try.ntmps51
  go_wp2
  go_ret
  exact ⟨congrArg (fun b => Ending.returned (.bool b)) (decide_eq_decide.2 (by omega)), hB⟩
set_option maxRecDepth 100000 in
set_option maxHeartbeats 4000000 in
theorem unused_any (v : Value) (m : MapD) (bs : List Nat) (w : World) (hV : MapV w v m bs) (hL : MapL m) :
    Calls Try.prog 24 #[v] w fun e w' => ∃ v', e = .returned v' ∧ OwnI w.heap.size w' v' (unuQ m) ∧ Bel w w' := by
  obtain ⟨i0, hi0, hz0, hz1, hz2⟩ := info_parts infoI
  have hmm := @run_makeMap Try.prog
  have hV' := hV
  obtain ⟨a0, c0, a1, c1, a2, c2, b0, b1, b2, rfl, _, _, _, _⟩ := hV.out
  have HU0 : Hid (∀ i (h : i < m.nodes.length), m.nodes[i].tags.length ≤ 1048576) := hL.u0
  clear hV
  go_enter Try.func24, Try.ntmps24
  go_wp2_with fail
  refine (chartOf_any _ m bs _ (hV'.bel (bel_alloc (Bel.refl _) _)) hL).mono ?_
  rintro e w1 (⟨hm, d0, k0, d1, k1, d2, k2, bN, bW, q0, q1, q2, rfl, hN, hR, _, _, _, hb⟩ | ⟨hm, rfl, hb⟩)
  · have hB := bel_step (bel_alloc (Bel.refl w) _) hb
    have hok := bP_out hm
    obtain ⟨n0, hn0⟩ : ∃ n, m.nodes.length = n := ⟨_, rfl⟩
    obtain ⟨n1, hn1⟩ : ∃ n, m.ways.length = n := ⟨_, rfl⟩
    have H0 : Hid (m.nodes.length = n0) := hn0
    have H1 : Hid (m.ways.length = n1) := hn1
    have HQ : Hid (unuQ m = unuTo m n0) := (by unfold unuQ; rw [if_pos hm, H0.out] : unuQ m = unuTo m n0)
    have hle0 : n0 ≤ 5000 := by rw [← H0.out]; exact hok.n1
    have hle1 : n1 ≤ 1000 := by rw [← H1.out]; exact hok.n2
    have HW2 : Hid (∀ i (h : i < m.ways.length), m.ways[i].nodes.length ≤ 2000) := fun i h => (hok.wy i h).2.1
    rw [hn0, hn1]
    clear hV' hm hb hn0 hn1 hok
    obtain ⟨V, HV⟩ : ∃ W, Hid (W = w1.alloc (.cells #[.slice d0 n0 k0, .slice d1 n1 k1, .slice d2 m.areas.length k2, .map (some bN), .map (some bW)] 74)) := ⟨_, (rfl : w1.alloc (.cells #[.slice d0 n0 k0, .slice d1 n1 k1, .slice d2 m.areas.length k2, .map (some bN), .map (some bW)] 74) = _)⟩
    have S1 : Bel w1 V := by rw [HV.out]; exact bel_alloc (Bel.refl _) _
    have hVs : w1.heap.size + 1 = V.heap.size := by rw [HV.out]; simp
    have hBV : Bel w V := bel_step hB S1
    have Xc : Blk V w1.heap.size [.slice d0 n0 k0, .slice d1 n1 k1, .slice d2 m.areas.length k2, .map (some bN), .map (some bW)] := by rw [HV.out]; exact Blk.new w1 [.slice d0 n0 k0, .slice d1 n1 k1, .slice d2 m.areas.length k2, .map (some bN), .map (some bW)] 74
    have HR := hR.bel wRecE S1
    have HNR := hN.bel nRecE S1
    have hS0 := SetAt.new V
    obtain ⟨W, HW⟩ : ∃ W, Hid (W = V.alloc (.map #[] 0)) := ⟨_, (rfl : V.alloc (.map #[] 0) = _)⟩
    have hVW : Bel V W := by rw [HW.out]; exact bel_alloc (Bel.refl _) _
    rw [← HW.out] at hS0
    have x1 : W.cell? ⟨w1.heap.size, 1, none⟩ = some (.slice d1 n1 k1) := (Xc.bel hVW).cell 1 (by simp)
    clear hR hN S1 hB
    go_wp2
    rw [← HV.out, ← HW.out]
    have hWs : V.heap.size < W.heap.size := by rw [HW.out]; simp
    have hBW : Bel w W := bel_step hBV hVW
    clear HV HW
    go_loopw [7, 22] (fun _ i wr => ∃ k : Nat, k ≤ n1 ∧ i = .int .i64 k ∧ SetAt wr V.heap.size (cntTo m.ways k) (usedTo m.ways k) ∧ W.grownBy wr (some V.heap.size)) (fun _ i _ => n1 - (intOf i).toNat)
    case atStart => exact ⟨0, Nat.zero_le _, rfl, by rw [usedTo_zero]; exact hS0, World.grownBy.refl _ _⟩
    case round =>
      clear hS0
      obtain ⟨k, hk, rfl, hSk, hgr⟩ := hrel
      have hBr : Bel V wr := bel_grow hVW hgr (fun k e => by injection e with e; omega)
      by_cases hlt : k < n1
      · have hkl : k < m.ways.length := by rw [H1.out]; exact hlt
        obtain ⟨b, off, f, rfl, hb, hx⟩ := HR.out hkl
        obtain ⟨_, e0, a, c, a', c', g1, g2, _, _, _, e2, tt, e1, _⟩ := hx k hkl
        obtain ⟨d, Hd⟩ : ∃ d, Hid (d = m.ways[k]) := ⟨_, (rfl : m.ways[k] = _)⟩
        have hnl := HW2.out k hkl
        rw [← Hd.out] at e0 e1 e2 tt hnl
        have e0 := bel_cellM hBr hb e0
        have e1 := bel_cellM hBr hb e1
        have e2 := bel_cellM hBr hb e2
        have hg1 : V.heap.size ∉ g1 := fun h => absurd (tt.lt intE _ h) (Nat.lt_irrefl _)
        have hBq := bel_alloc hBr (.cells #[.int .i64 d.id, .slice a' d.tags.length c', .slice a d.nodes.length c] 87)
        have tt := tt.bel intE hBq
        have hSq := hSk.bel (bel_alloc (Bel.refl wr) (.cells #[.int .i64 d.id, .slice a' d.tags.length c', .slice a d.nodes.length c] 87))
        have hgq := grown_step hgr (bel_alloc (Bel.refl wr) (.cells #[.int .i64 d.id, .slice a' d.tags.length c', .slice a d.nodes.length c] 87))
        have hlt' : (k : Int) < (n1 : Int) := by omega
        have hcn := cntTo_le HW2.out k (by omega)
        have HC : Hid (cntTo m.ways (k + 1) = cntTo m.ways k + d.nodes.length) := by
          show cntTo m.ways k + (m.ways.getD k ⟨0, [], []⟩).nodes.length = _
          rw [getD_at _ hkl, Hd.out]
        have HUS : Hid ((fun y => y ∈ d.nodes ∨ usedTo m.ways k y) = usedTo m.ways (k + 1)) := by rw [Hd.out]; exact usedTo_succ hkl
        clear hx hSk hgr
        go_wp2_with fail
        refine (add_any V.heap.size _ _ _ _ _ d.nodes g1 _ hSq tt rfl (by omega) (by omega) hg1).mono ?_
        rintro e w2 ⟨rfl, hS2, hg2⟩
        have HS2 : Hid (SetAt w2 V.heap.size (cntTo m.ways (k + 1)) (usedTo m.ways (k + 1))) := by rw [HC.out, ← HUS.out]; exact hS2
        have hG2 := hgq.trans hg2
        clear hSq tt hS2 hgq hg2
        go_wp2
        go_roundw
        case rel => exact ⟨k + 1, by omega, by go_num, HS2.out, hG2⟩
        case measure => simp [intOf]; omega
      · have e : n1 = k := by omega
        subst e
        have x0 : wr.cell? ⟨w1.heap.size, 0, none⟩ = some (.slice d0 n0 k0) := (Xc.bel hBr).cell 0 (by simp)
        have HS : Hid (SetAt wr V.heap.size (cntTo m.ways n1) (usedTo m.ways n1)) := hSk
        have HNR := HNR.bel nRecE hBr
        have hBwr : Bel w wr := bel_step hBV hBr
        have O1 : OwnI wr.heap.size wr (.slice none 0 0) [] := World.ownsRow_nil _ _ _ _
        obtain ⟨U, rfl⟩ : ∃ U, U = wr := ⟨_, rfl⟩
        clear hSk hgr x1 Xc hBr HR
        go_wp2
        go_loopw [8, 10, 34] (fun o _ i wq => ∃ k : Nat, k ≤ n0 ∧ i = .int .i64 k ∧ OwnI U.heap.size wq o (unuTo m k) ∧ Bel U wq) (fun _ _ i _ => n0 - (intOf i).toNat)
        case atStart => exact ⟨0, Nat.zero_le _, rfl, O1, Bel.refl _⟩
        case round =>
          clear O1 x0
          obtain ⟨k, hk, rfl, hown, hBr⟩ := hrel
          obtain ⟨va, vc, rfl⟩ := own_shape hown
          by_cases hlt : k < n0
          · have hkl : k < m.nodes.length := by rw [H0.out]; exact hlt
            obtain ⟨b, off, f, rfl, hb, hx⟩ := HNR.out hkl
            obtain ⟨id0, _, _, e0, e2, e3, a, c, _, e1, _⟩ := hx k hkl
            obtain ⟨d, Hd⟩ : ∃ d, Hid (d = m.nodes[k]) := ⟨_, (rfl : m.nodes[k] = _)⟩
            have htl := HU0.out k hkl
            rw [← Hd.out] at e0 e1 e2 e3 htl id0
            have e0 := bel_cellM hBr hb e0
            have e1 := bel_cellM hBr hb e1
            have e2 := bel_cellM hBr hb e2
            have e3 := bel_cellM hBr hb e3
            have hlt' : (k : Int) < (n0 : Int) := by omega
            have hln := unuTo_len m k
            obtain ⟨Q, HQW⟩ : ∃ Q, Hid (Q = wr.alloc (.cells #[.int .i64 d.id, .slice a d.tags.length c, .int .i64 d.x, .int .i64 d.y] 98)) := ⟨_, (rfl : wr.alloc (.cells #[.int .i64 d.id, .slice a d.tags.length c, .int .i64 d.x, .int .i64 d.y] 98) = _)⟩
            have hBQ : Bel wr Q := by rw [HQW.out]; exact bel_alloc (Bel.refl _) _
            have XQ : Blk Q wr.heap.size [.int .i64 d.id, .slice a d.tags.length c, .int .i64 d.x, .int .i64 d.y] := by rw [HQW.out]; exact Blk.new wr [.int .i64 d.id, .slice a d.tags.length c, .int .i64 d.x, .int .i64 d.y] 98
            have hszr := hBr.out.size
            have HO : Hid (OwnI U.heap.size wr (.slice va (unuTo m k).length vc) (unuTo m k)) := hown
            clear hown hx
            go_wp2_with fail
            rw [← HQW.out]
            refine (tagged_any d.id a d.tags.length c _ htl).mono ?_
            rintro e w2 ⟨rfl, hb2⟩
            have hB2 := bel_step hBQ hb2
            have X2 := XQ.bel hb2
            have p0 : w2.cell? ⟨wr.heap.size, 0, none⟩ = some (.int .i64 d.id) := X2.cell 0 (by simp)
            by_cases ht : d.tags.length = 0
            · rw [decide_eq_false (show ¬ d.tags.length ≠ 0 from fun h => h ht)]
              have HS2 := (HS.out.bel hBr).bel hB2
              go_wp2_with fail
              refine (has_any V.heap.size _ _ d.id _ HS2 id0).mono ?_
              rintro e w3 ⟨rfl, hb3⟩
              have hB3 := bel_step hB2 hb3
              have hBU3 := bel_step hBr hB3
              have X3 := X2.bel hb3
              have r0 : w3.cell? ⟨wr.heap.size, 0, none⟩ = some (.int .i64 d.id) := X3.cell 0 (by simp)
              have HO3 : Hid (OwnI U.heap.size w3 (.slice va (unuTo m k).length vc) (unuTo m k)) := own_bel HO.out hB3
              by_cases hu : bP (usedTo m.ways n1 d.id) = true
              · have HE : Hid (unuTo m (k + 1) = unuTo m k) := by rw [Hd.out, ← H1.out] at hu; exact unuTo_no hkl (.inr hu)
                rw [hu]
                clear hu HS2
                go_wp2
                go_roundw
                case rel => exact ⟨k + 1, by omega, by go_num, by rw [HE.out]; exact HO3.out, hBU3⟩
                case measure => simp [intOf]; omega
              · have hu : bP (usedTo m.ways n1 d.id) = false := by simpa using hu
                have HE : Hid (unuTo m (k + 1) = unuTo m k ++ [d.id]) := by rw [Hd.out] at ht hu ⊢; rw [← H1.out] at hu; exact unuTo_yes hkl ht hu
                rw [hu]
                have hown2 := World.ownsRow.alloc HO3.out (.cells #[.int .i64 d.id] 2)
                have hBa := bel_alloc hBU3 (.cells #[.int .i64 d.id] 2)
                have hs3 := hBU3.out.size
                clear hu HS2
                go_wp2_with (first
                  | (at_builtin; refine wpList_append_own _ rfl _ _ 43 rfl U.heap.size 2 i0 (.int .i64 0) 1 8 Try.underlying43 hi0 hz0 hz1 hz2 rfl (by decide) _ _ _ rfl hown2 ⟨w3.heap.size, 0, none⟩ 1 1 [.int .i64 d.id] rfl rfl ?c1 ?c2 ?c3 ?c4 ?c5 ?_)
                  | go_in)
                case c1 =>
                  intro j u hj
                  match j, hj with
                  | 0, hj => simp at hj; subst hj; simp [Addr.add]
                case c2 =>
                  intro u hu
                  simp at hu
                  rcases hu with rfl
                  rfl
                case c3 => unfold maxLen; omega
                case c4 => omega
                case c5 => simp; omega
                intro v' w4 hown' hgrow _
                have HO4 : Hid (OwnI U.heap.size w4 v' (unuTo m (k + 1))) := by rw [HE.out]; exact own_add hown'
                have hB4 : Bel U w4 := bel_grow hBa hgrow (fun j e => (hown2.lt j e).1)
                clear hown' hgrow hown2 hBa HO HO3
                go_wp2
                go_roundw
                case rel => exact ⟨k + 1, by omega, by go_num, HO4.out, hB4⟩
                case measure => simp [intOf]; omega
            · have HE : Hid (unuTo m (k + 1) = unuTo m k) := by rw [Hd.out] at ht; exact unuTo_no hkl (.inl ht)
              rw [decide_eq_true (show d.tags.length ≠ 0 from ht)]
              have hBU2 := bel_step hBr hB2
              have HO2 : Hid (OwnI U.heap.size w2 (.slice va (unuTo m k).length vc) (unuTo m k)) := own_bel HO.out hB2
              go_wp2
              go_roundw
              case rel => exact ⟨k + 1, by omega, by go_num, by rw [HE.out]; exact HO2.out, hBU2⟩
              case measure => simp [intOf]; omega
          · have e : n0 = k := by omega
            subst e
            have HO : Hid (OwnI U.heap.size wr (.slice va (unuTo m n0).length vc) (unuTo m n0)) := hown
            clear hown
            go_wp2
            go_ret
            exact ⟨_, rfl, by rw [HQ.out]; exact own_base HO.out hBwr.out.size, bel_step hBwr hBr⟩
  · have HQ : Hid (unuQ m = []) := (by unfold unuQ; rw [hm]; rfl : unuQ m = [])
    have hB := bel_step (bel_alloc (Bel.refl w) _) hb
    clear hV' hm hb
    go_wp2
    go_ret
    have hB2 := bel_alloc hB (.cells #[.slice none 0 0, .slice none 0 0, .slice none 0 0, .map none, .map none] 74)
    exact ⟨_, rfl, by rw [HQ.out]; exact World.ownsRow_nil _ _ _ _, hB2⟩
end Go.Proofs.Ytmmapkpieimibaa
