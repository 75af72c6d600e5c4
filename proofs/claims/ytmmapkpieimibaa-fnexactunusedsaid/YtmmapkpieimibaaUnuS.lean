/-
  The nodes that nothing uses, in the document's model: the contract.
-/
import Derived.Test.YtmmapkpieimibaaUnuI
import Derived.Test.YtmmapkpieimibaaNodeAt
import Derived.Deep.RegionHeld3
import Derived.Deep.OwnRows
namespace Go.Proofs.Ytmmapkpieimibaa
open Go.RowKit Go.Maps

/-- A row of marks of the call's own, of which one may be turned. -/
structure Ub (W : World) (B n j0 : Nat) (p : Nat → Bool) (w : World) : Prop where
  b : Bel W w
  r : ∃ c : Bool, w.rowIs B 4 n (fun j => .bool (if j = j0 then c else p j))
theorem Ub.drew {W : World} {B n j0 : Nat} {p : Nat → Bool} {a : World} (h : Ub W B n j0 p a) : Ub W B n j0 p a.drew := ⟨h.b.drew, h.r.imp fun _ k => k.drew⟩
theorem Ub.bel {W : World} {B n j0 : Nat} {p : Nat → Bool} {a b : World} (h : Ub W B n j0 p a) (k : Bel a b) : Ub W B n j0 p b :=
  ⟨bel_step h.b k, h.r.imp fun _ r => r.of_block (k.out.block B r.lt)⟩
theorem Ub.set {W : World} {B n j0 : Nat} {p : Nat → Bool} {a : World} (h : Ub W B n j0 p a) (hB : W.heap.size ≤ B) (c : Bool) : Ub W B n j0 p (a.setCell ⟨B, j0, none⟩ (.bool c)) :=
  ⟨bel_set h.b hB _, c, by
    obtain ⟨c0, r⟩ := h.r
    exact (r.set j0 (.bool c)).congr fun i _ => by by_cases e : i = j0 <;> simp [e]⟩
theorem Ub.start {W : World} {B n j0 : Nat} {p : Nat → Bool} {a : World} (h : Bel W a) (r : a.rowIs B 4 n (fun j => .bool (p j))) : Ub W B n j0 p a :=
  ⟨h, p j0, r.congr fun i _ => by by_cases e : i = j0 <;> simp [e]⟩

theorem mark_step {n : Nat} {I : Nat → Int} {T : Nat → Bool} (hA : AscP n I T) {i j0 q : Nat} {x : Int} {ns : List Int} {U : Int → Prop} {cb : Bool} {p : Nat → Bool} (hi : i < n) (hj : j0 < n) (hI : I j0 = x) (hq : q < ns.length) (hx : x = ns[q]) (hp : p = fun j => bP (U (I j) ∨ I j ∈ ns.take q)) :
    (if i = j0 then Value.bool true else .bool (if i = j0 then cb else p i)) = .bool (bP (U (I i) ∨ I i ∈ ns.take (q + 1))) := by
  subst hp
  rw [List.take_succ_eq_append_getElem hq]
  by_cases e : i = j0
  · subst e
    rw [if_pos rfl, bP_true (Or.inr (List.mem_append.2 (Or.inr (List.mem_singleton.2 (hI.trans hx)))))]
  · rw [if_neg e, if_neg e]
    have hne : I i ≠ ns[q] := fun h => e (hA.inj hi hj (by rw [h, hI, hx]))
    exact congrArg (fun p => Value.bool (bP p)) (propext ⟨fun h => h.imp id (fun h => List.mem_append.2 (.inl h)), fun h => h.imp id (fun h => (List.mem_append.1 h).elim id (fun h => absurd (List.mem_singleton.1 h) hne))⟩)
theorem mark_all {l : List WayD} {k n3 : Nat} {y : Int} {d : WayD} (hk : k < l.length) (hd : d = l[k]) (hn : d.nodes.length = n3) : bP (usedTo l k y ∨ y ∈ d.nodes.take n3) = bP (usedTo l (k + 1) y) := by
  rw [← hn, List.take_length, ← usedTo_succ hk, hd, Or.comm]

theorem infoB : (Try.prog.info? 4).map (fun i => (i.zero, i.size, i.bytes)) = some (some (.bool false), 1, 1) := by kernel_rfl
theorem own_ne {base B : Nat} {w : World} {v : Value} {l : List Int} {n : Nat} {f : Nat → Value} (h : OwnI base w v l) (r : w.rowIs B 4 n f) : some B ≠ v.ownBlock := by
  intro e
  rcases h.2 with ⟨rfl, _⟩ | ⟨g, cap, cur, rfl, _, e3, _⟩
  · cases e
  · obtain ⟨c, hc, _⟩ := r
    have e : B = g := Option.some.inj e
    rw [e, e3] at hc
    injection hc with hc
    injection hc with _ hc
    exact absurd hc (by decide)

set_option maxRecDepth 100000 in
set_option maxHeartbeats 4000000 in
theorem specUnused_any (v : Value) (m : MapD) (bs : List Nat) (w : World) (hV : MapV w v m bs) (hL : MapL m) :
    Calls Try.prog 23 #[v] w fun e w' => ∃ v', e = .returned v' ∧ OwnI w.heap.size w' v' (unuQ m) ∧ Bel w w' := by
  obtain ⟨i0, hi0, hz0, hz1, hz2⟩ := info_parts infoI
  obtain ⟨a0, c0, a1, c1, a2, c2, b0, b1, b2, hv, hbs, t0, t1, t2⟩ := hV.out
  have HL : Hid (MapL m) := hL
  have HU0 : Hid (∀ i (h : i < m.nodes.length), m.nodes[i].tags.length ≤ 1048576) := hL.u0
  obtain ⟨W, HW⟩ : ∃ W, Hid (W = w.alloc (.cells #[.slice a0 m.nodes.length c0, .slice a1 m.ways.length c1, .slice a2 m.areas.length c2] 33)) := ⟨_, (rfl : w.alloc (.cells #[.slice a0 m.nodes.length c0, .slice a1 m.ways.length c1, .slice a2 m.areas.length c2] 33) = _)⟩
  have S0 : Bel w W := by rw [HW.out]; exact bel_alloc (Bel.refl _) _
  have X0 : Blk W w.heap.size [.slice a0 m.nodes.length c0, .slice a1 m.ways.length c1, .slice a2 m.areas.length c2] := by rw [HW.out]; exact Blk.new w [.slice a0 m.nodes.length c0, .slice a1 m.ways.length c1, .slice a2 m.areas.length c2] 33
  have hsz : w.heap.size + 1 = W.heap.size := by rw [HW.out]; simp
  obtain ⟨A, C, A', C', f1, f2, _, hX⟩ := name_ways (t1.bel wayE S0)
  have HX : Hid _ := hX
  obtain ⟨AN, CN, fN, _, hN⟩ := name_nodes (t0.bel nodeE S0)
  have HN : Hid _ := hN
  clear hX hN
  obtain ⟨n0, hn0⟩ : ∃ n, m.nodes.length = n := ⟨_, rfl⟩
  obtain ⟨n1, hn1⟩ : ∃ n, m.ways.length = n := ⟨_, rfl⟩
  obtain ⟨n2, hn2⟩ : ∃ n, m.areas.length = n := ⟨_, rfl⟩
  have H0 : Hid (m.nodes.length = n0) := hn0
  have H1 : Hid (m.ways.length = n1) := hn1
  rw [hn0, hn1, hn2] at HW X0 hv
  subst hv
  have HV : Hid (MapV w (.agg #[.slice a0 n0 c0, .slice a1 n1 c1, .slice a2 n2 c2]) m bs) := hV
  have hVW : MapV (W.alloc (.cells #[] 2)) (.agg #[.slice a0 n0 c0, .slice a1 n1 c1, .slice a2 n2 c2]) m bs := hV.bel (bel_alloc S0 _)
  have hB0 : Bel W (W.alloc (.cells #[] 2)) := bel_alloc (Bel.refl _) _
  have O0 : OwnI W.heap.size (W.alloc (.cells #[] 2)) (.slice (some ⟨W.heap.size, 0, none⟩) 0 0) [] := World.ownsRow_lit W #[] 0 (Nat.le_refl _) (Nat.zero_le _) rfl
  clear hV hL hbs t0 t1 t2 hn0 hn1 hn2
  go_enter Try.func23, Try.ntmps23
  go_wp2_with fail
  rw [← HW.out]
  refine (specMapOk_any _ m bs _ hVW HL.out).mono ?_
  rintro e w1 ⟨rfl, hb1⟩
  have O1 : OwnI W.heap.size w1 (.slice (some ⟨W.heap.size, 0, none⟩) 0 0) [] := own_bel O0 hb1
  have hB1 := bel_step hB0 hb1
  have hB : Bel w w1 := bel_step S0 hB1
  clear hVW O0 hB0 hb1 HW
  by_cases hm : mapB m = true
  · have hok := bP_out hm
    have HQ : Hid (unuQ m = unuTo m n0) := (by unfold unuQ; rw [if_pos hm, H0.out] : unuQ m = unuTo m n0)
    have hl0 : Hid (m.nodes.length ≤ 5000) := hok.n1
    have hle0 : n0 ≤ 5000 := by rw [← H0.out]; exact hok.n1
    have hle1 : n1 ≤ 1000 := by rw [← H1.out]; exact hok.n2
    have HA : Hid (AscP m.nodes.length (nId m.nodes) (nTg m.nodes)) := hok.an
    have HY : Hid (∀ i (h : i < m.ways.length), m.ways[i].nodes.length ≤ 2000 ∧ ∀ j (h' : j < m.ways[i].nodes.length), HasI m.nodes.length (nId m.nodes) m.ways[i].nodes[j]) := fun i h => ⟨(hok.wy i h).2.1, fun j h' => ((hok.wy i h).2.2 j h').1⟩
    rw [hm]
    clear hm hok
    have hmk := fun w' => run_make_row' (P := Try.prog) 93 4 (.bool false) 1 Try.underlying93 infoB rfl .i64 .i64 n0 (by omega) (by omega) w'
    have X1 := X0.bel hB1
    have x10 : w1.cell? ⟨w.heap.size, 0, none⟩ = some (.slice a0 n0 c0) := X1.cell 0 (by simp)
    have R0 : (w1.alloc (.cells (madeCells #[.bool false] n0) 4)).rowIs w1.heap.size 4 n0 (fun j => .bool (bP (usedTo m.ways 0 (nId m.nodes j)))) :=
      (World.rowIs_made w1 (.bool false) n0 4).congr fun j _ => by rw [usedTo_zero, bP_false id]
    have hBa : Bel w1 (w1.alloc (.cells (madeCells #[.bool false] n0) 4)) := bel_alloc (Bel.refl _) _
    have HX0 : Hid _ := X0
    clear X0
    go_wp2
    go_loopw [5, 6] (fun i _ wr => ∃ k : Nat, k ≤ n1 ∧ i = .int .i64 k ∧ wr.rowIs w1.heap.size 4 n0 (fun j => .bool (bP (usedTo m.ways k (nId m.nodes j)))) ∧ Bel w1 wr) (fun i _ _ => n1 - (intOf i).toNat)
    case atStart => exact ⟨0, Nat.zero_le _, rfl, R0, hBa⟩
    case round =>
      clear R0 hBa hmk x10
      obtain ⟨k, hk, rfl, hr, hBr⟩ := hrel
      have o1 : wr.cell? ⟨w.heap.size, 1, none⟩ = some (.slice a1 n1 c1) := (X1.bel hBr).cell 1 (by simp)
      by_cases hlt : k < n1
      · have hkl : k < m.ways.length := by rw [H1.out]; exact hlt
        obtain ⟨b, off, rfl, hb, _, _, _, _, d1, tt, _, _⟩ := HX.out k hkl
        obtain ⟨d, Hd⟩ : ∃ d, Hid (d = m.ways[k]) := ⟨_, (rfl : m.ways[k] = _)⟩
        have HYk := HY.out k hkl
        rw [← Hd.out] at d1 tt HYk
        obtain ⟨hnl, hyk⟩ := HYk
        have HYK : Hid (∀ j (h' : j < d.nodes.length), HasI m.nodes.length (nId m.nodes) d.nodes[j]) := hyk
        obtain ⟨n3, hn3⟩ : ∃ n, d.nodes.length = n := ⟨_, rfl⟩
        have H3 : Hid (d.nodes.length = n3) := hn3
        rw [hn3] at hnl d1
        have HT1 : Hid (Ints W (A k) d.nodes (f1 k)) := tt
        have hlt' : (k : Int) < (n1 : Int) := by omega
        have hb1 := bel_lt hB1 hb
        have d11 := bel_cellM hB1 hb d1
        have HR0 : Hid (wr.rowIs w1.heap.size 4 n0 (fun j => .bool (bP (usedTo m.ways k (nId m.nodes j) ∨ nId m.nodes j ∈ d.nodes.take 0)))) := hr.congr fun j _ => by simp
        clear hyk tt d1 hn3 hr hb
        go_wp2
        go_loopw [6] (fun i wq => ∃ q : Nat, q ≤ n3 ∧ i = .int .i64 q ∧ wq.rowIs w1.heap.size 4 n0 (fun j => .bool (bP (usedTo m.ways k (nId m.nodes j) ∨ nId m.nodes j ∈ d.nodes.take q))) ∧ Bel w1 wq) (fun i _ => n3 - (intOf i).toNat)
        case atStart => exact ⟨0, Nat.zero_le _, rfl, HR0.out, hBr⟩
        case round =>
          clear HR0 hBr o1
          obtain ⟨q, hq, rfl, hr, hBq⟩ := hrel
          have p1 : wr.cell? ⟨w.heap.size, 1, none⟩ = some (.slice (some ⟨b, off, none⟩) n1 c1) := (X1.bel hBq).cell 1 (by simp)
          have d1q := bel_cellM hBq hb1 d11
          by_cases hlq : q < n3
          · have hql : q < d.nodes.length := by rw [H3.out]; exact hlq
            obtain ⟨b', off', f', hAk, hb', hx'⟩ := (HT1.out.bel intE hB1).out hql
            obtain ⟨_, _, cx⟩ := hx' q hql
            obtain ⟨j0, hj0, hI0⟩ := HYK.out q hql
            have hp0 : posI (nId m.nodes) m.nodes.length d.nodes[q] = (j0 : Int) := by rw [← hI0]; exact posI_at HA.out hj0
            obtain ⟨x, Hx⟩ : ∃ x, Hid (x = d.nodes[q]) := ⟨_, (rfl : d.nodes[q] = _)⟩
            rw [← Hx.out] at cx hp0 hI0
            rw [Nat.mul_one] at cx
            obtain ⟨P, HP⟩ : ∃ P : Nat → Bool, Hid (P = fun j => bP (usedTo m.ways k (nId m.nodes j) ∨ nId m.nodes j ∈ d.nodes.take q)) := ⟨_, (rfl : (fun j => bP (usedTo m.ways k (nId m.nodes j) ∨ nId m.nodes j ∈ d.nodes.take q)) = _)⟩
            have g0 : Ub w1 w1.heap.size n0 j0 P wr := Ub.start hBq (by rw [HP.out]; exact hr)
            have hjn : j0 < n0 := by rw [← H0.out]; exact hj0
            have hjn' : (j0 : Int) < (n0 : Int) := by omega
            have HS : Hid (∀ cb i, i < n0 → (if i = j0 then Value.bool true else .bool (if i = j0 then cb else P i)) = .bool (bP (usedTo m.ways k (nId m.nodes i) ∨ nId m.nodes i ∈ d.nodes.take (q + 1)))) := fun cb i hi =>
              mark_step HA.out (by rw [H0.out]; exact hi) hj0 hI0 hql Hx.out HP.out
            have HP0 : Hid (posI (nId m.nodes) m.nodes.length x = (j0 : Int)) := hp0
            rw [hAk] at d11 d1q
            have hR : ∀ w', Ub w1 w1.heap.size n0 j0 P w' → w'.cell? ⟨w.heap.size, 0, none⟩ = some (.slice a0 n0 c0) ∧ w'.cell? ⟨w.heap.size, 1, none⟩ = some (.slice (some ⟨b, off, none⟩) n1 c1) ∧ w'.cell? ⟨w.heap.size, 2, none⟩ = some (.slice a2 n2 c2) ∧ w'.cell? ⟨b, off + k * 3 + 1, none⟩ = some (.slice (some ⟨b', off', none⟩) n3 (C k)) ∧ w'.cell? ⟨b', off' + q, none⟩ = some (.int .i64 x) ∧ w'.frozen? ⟨w1.heap.size, j0, none⟩ = false :=
              fun w' h => ⟨(X1.bel h.b).cell 0 (by simp), (X1.bel h.b).cell 1 (by simp), (X1.bel h.b).cell 2 (by simp), bel_cellM h.b hb1 d11, bel_cellM h.b hb' cx, by obtain ⟨_, r⟩ := h.r; exact r.frozen _⟩
            have hMV : ∀ w', Ub w1 w1.heap.size n0 j0 P w' → MapV w' (.agg #[.slice a0 n0 c0, .slice (some ⟨b, off, none⟩) n1 c1, .slice a2 n2 c2]) m bs := fun w' h => HV.out.bel (bel_step hB h.b)
            have hlq' : (q : Int) < (n3 : Int) := by omega
            clear hx' hr hp0 hI0 cx
            go_wp2
            go_region_held3 (fun w' => Ub w1 w1.heap.size n0 j0 P w') (with_reducible (repeat (first | assumption | exact g0 | refine Ub.drew ?_ | refine Ub.set ?_ (Nat.le_refl _) _ | refine Ub.bel (by assumption) (by assumption))))
              (first
                | (go_at_call 49; refine (l2Node_at _ m bs _ j0 _ (hMV _ (by assumption)) hl0.out HA.out HP0.out).mono ?_; rintro e w6 ⟨rfl, hb6⟩; obtain ⟨cb, hcb⟩ := (Ub.bel (W := w1) (B := w1.heap.size) (n := n0) (j0 := j0) (p := P) (by assumption) hb6).r; have v0 : w6.cell? ⟨w1.heap.size, j0, none⟩ = some (.bool (if j0 = j0 then cb else P j0)) := hcb.cell hjn))
            have hF : Ub w1 w1.heap.size n0 j0 P (w6.setCell ⟨w1.heap.size, j0, none⟩ (.bool true)) := by assumption
            have HR7 : Hid ((w6.setCell ⟨w1.heap.size, j0, none⟩ (.bool true)).rowIs w1.heap.size 4 n0 (fun j => .bool (bP (usedTo m.ways k (nId m.nodes j) ∨ nId m.nodes j ∈ d.nodes.take (q + 1))))) := (hcb.set j0 (.bool true)).congr fun i hi => HS.out cb i hi
            have hB7 := hF.b
            clear hF v0 hcb hb6 hR hMV g0
            go_wp2
            go_roundw
            case rel => exact ⟨q + 1, by omega, by go_num, HR7.out, hB7⟩
            case measure => simp [intOf]; omega
          · have e : n3 = q := by omega
            subst e
            have HR8 : Hid (wr.rowIs w1.heap.size 4 n0 (fun j => .bool (bP (usedTo m.ways (k + 1) (nId m.nodes j))))) := hr.congr fun j _ => by rw [mark_all hkl Hd.out H3.out]
            clear hr
            go_wp2
            go_roundw
            case rel => exact ⟨k + 1, by omega, by go_num, HR8.out, hBq⟩
            case measure => simp [intOf]; omega
      · have e : n1 = k := by omega
        subst e
        have HB0 : Hid (Bel w1 wr) := hBr
        have HR9 : Hid (wr.rowIs w1.heap.size 4 n0 (fun j => .bool (bP (usedTo m.ways n1 (nId m.nodes j))))) := hr
        have O2 : OwnI W.heap.size wr (.slice (some ⟨W.heap.size, 0, none⟩) 0 0) (unuTo m 0) := own_bel O1 hBr
        clear hr
        go_wp2
        go_loopw [3, 7] (fun o i wq => ∃ k : Nat, k ≤ n0 ∧ i = .int .i64 k ∧ OwnI W.heap.size wq o (unuTo m k) ∧ wq.rowIs w1.heap.size 4 n0 (fun j => .bool (bP (usedTo m.ways n1 (nId m.nodes j)))) ∧ Bel W wq) (fun _ i _ => n0 - (intOf i).toNat)
        case atStart => exact ⟨0, Nat.zero_le _, rfl, O2, HR9.out, bel_step hB1 HB0.out⟩
        case round =>
          clear O1 O2 HR9 HB0 hBr o1
          obtain ⟨k, hk, rfl, hown, hr, hBr⟩ := hrel
          obtain ⟨va, vc, rfl⟩ := own_shape hown
          have q0 : wr.cell? ⟨w.heap.size, 0, none⟩ = some (.slice a0 n0 c0) := (HX0.out.bel hBr).cell 0 (by simp)
          by_cases hlt : k < n0
          · have hkl : k < m.nodes.length := by rw [H0.out]; exact hlt
            obtain ⟨b, off, rfl, hb, _, _, _, d0, _, _, _, d3, _⟩ := HN.out k hkl
            obtain ⟨d, Hd⟩ : ∃ d, Hid (d = m.nodes[k]) := ⟨_, (rfl : m.nodes[k] = _)⟩
            have htl := HU0.out k hkl
            rw [← Hd.out] at d0 d3 htl
            have d0 := bel_cellM hBr hb d0
            have d3 := bel_cellM hBr hb d3
            have u0 : wr.cell? ⟨w1.heap.size, k, none⟩ = some (.bool (bP (usedTo m.ways n1 d.id))) := by
              have := hr.cell hlt
              rw [nId_at hkl] at this
              rw [Hd.out]
              exact this
            have hlt' : (k : Int) < (n0 : Int) := by omega
            have hln := unuTo_len m k
            have HO : Hid (OwnI W.heap.size wr (.slice va (unuTo m k).length vc) (unuTo m k)) := hown
            have HR : Hid (wr.rowIs w1.heap.size 4 n0 (fun j => .bool (bP (usedTo m.ways n1 (nId m.nodes j))))) := hr
            clear hown hr
            by_cases hu : bP (usedTo m.ways n1 d.id) = true
            · have HE : Hid (unuTo m (k + 1) = unuTo m k) := by rw [Hd.out, ← H1.out] at hu; exact unuTo_no hkl (.inr hu)
              rw [hu] at u0
              clear hu
              go_wp2
              go_roundw
              case rel => exact ⟨k + 1, by omega, by go_num, by rw [HE.out]; exact HO.out, HR.out, hBr⟩
              case measure => simp [intOf]; omega
            · have hu : bP (usedTo m.ways n1 d.id) = false := by simpa using hu
              by_cases ht : d.tags.length = 0
              · have HE : Hid (unuTo m (k + 1) = unuTo m k ++ [d.id]) := by rw [Hd.out] at ht hu ⊢; rw [← H1.out] at hu; exact unuTo_yes hkl ht hu
                rw [hu] at u0
                rw [ht] at d3
                have hown2 := World.ownsRow.alloc HO.out (.cells #[.int .i64 d.id] 2)
                have hBa := bel_alloc hBr (.cells #[.int .i64 d.id] 2)
                have HR2 := HR.out.alloc (.cells #[.int .i64 d.id] 2)
                have hsr := hBr.out.size
                clear hu ht
                go_wp2_with (first
                  | (at_builtin; refine wpList_append_own _ rfl _ _ 43 rfl W.heap.size 2 i0 (.int .i64 0) 1 8 Try.underlying43 hi0 hz0 hz1 hz2 rfl (by decide) _ _ _ rfl hown2 ⟨wr.heap.size, 0, none⟩ 1 1 [.int .i64 d.id] rfl rfl ?c1 ?c2 ?c3 ?c4 ?c5 ?_)
                  | go_in)
                case c1 =>
                  intro j u hj
                  match j, hj with
                  | 0, hj => simp at hj; subst hj; simp [Addr.add]
                case c2 =>
                  intro u hu
                  simp at hu
                  rcases hu with rfl
                  rfl
                case c3 => unfold maxLen; omega
                case c4 => omega
                case c5 => simp; omega
                intro v' w4 hown' hgrow _
                have HO4 : Hid (OwnI W.heap.size w4 v' (unuTo m (k + 1))) := by rw [HE.out]; exact own_add hown'
                have hB4 : Bel W w4 := bel_grow hBa hgrow (fun j e => (hown2.lt j e).1)
                have HR4 : Hid (w4.rowIs w1.heap.size 4 n0 (fun j => .bool (bP (usedTo m.ways n1 (nId m.nodes j))))) := HR2.of_block (hgrow.block _ HR2.lt (own_ne hown2 HR2))
                clear hown' hgrow hown2 hBa HO HR2 HR
                go_wp2
                go_roundw
                case rel => exact ⟨k + 1, by omega, by go_num, HO4.out, HR4.out, hB4⟩
                case measure => simp [intOf]; omega
              · have HE : Hid (unuTo m (k + 1) = unuTo m k) := by rw [Hd.out] at ht; exact unuTo_no hkl (.inl ht)
                have ht' : ((d.tags.length : Int) == 0) = false := by simp [ht]
                rw [hu] at u0
                clear hu
                go_wp2
                go_roundw
                case rel => exact ⟨k + 1, by omega, by go_num, by rw [HE.out]; exact HO.out, HR.out, hBr⟩
                case measure => simp [intOf]; omega
          · have e : n0 = k := by omega
            subst e
            have HO : Hid (OwnI W.heap.size wr (.slice va (unuTo m n0).length vc) (unuTo m n0)) := hown
            clear hown hr
            go_wp2
            go_ret
            exact ⟨_, rfl, by rw [HQ.out]; exact own_base HO.out S0.out.size, bel_step S0 hBr⟩
  · have hm : mapB m = false := by simpa using hm
    have HQ : Hid (unuQ m = []) := (by unfold unuQ; rw [hm]; rfl : unuQ m = [])
    rw [hm]
    clear hm
    go_wp2
    go_ret
    exact ⟨_, rfl, by rw [HQ.out]; exact own_base O1 S0.out.size, hB⟩
end Go.Proofs.Ytmmapkpieimibaa
