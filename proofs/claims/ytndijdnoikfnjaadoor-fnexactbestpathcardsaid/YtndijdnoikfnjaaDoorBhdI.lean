/-
  The Roads of a best path in the program: behind, roadsFrom: contracts.
-/
import Derived.Test.YtndijdnoikfnjaaDoorLegI
namespace Go.Proofs.YtndijdnoikfnjaaDoor
open Go.RowKit Go.Maps

theorem find_at {p : Nat → Bool} {l : List Nat} {k : Nat} (hk : k < l.length) (hno : ∀ i (h : i < l.length), i < k → p l[i] = false) (hy : p l[k] = true) : l.find? p = some l[k] := by
  rw [List.find?_eq_some_iff_getElem]
  exact ⟨hy, k, hk, rfl, fun j hj => by simp [hno j (by omega) hj]⟩
theorem find_no {p : Nat → Bool} {l : List Nat} (hno : ∀ i (h : i < l.length), p l[i] = false) : l.find? p = none := by
  rw [List.find?_eq_none]
  intro x hx
  obtain ⟨i, hi, rfl⟩ := List.getElem_of_mem hx
  simp [hno i hi]
/-- The Road behind, as a number: -1 for none. -/
def nxI : Option Nat → Int
  | none => -1
  | some y => y
theorem cstEq (x y : Cst) (w : World) : Sem.run Tryd.prog (binOp .eql 77 (.agg #[.int .i64 x.t, .int .i64 x.c]) (.agg #[.int .i64 y.t, .int .i64 y.c])) w = .ok (.bool (decide (x = y))) w := by
  obtain ⟨a, b⟩ := x
  obtain ⟨a', b'⟩ := y
  have e : decide ((⟨a, b⟩ : Cst) = ⟨a', b'⟩) = (decide (a = a') && decide (b = b')) := by simp
  rw [e]
  by_cases h1 : a = a' <;> by_cases h2 : b = b' <;> go_simp
/-- What behind leans on. -/
structure BhS (base : Nat) (P : Nat) (S : SrS) (g : GraphD) (lo : Nat) (bl : List Cst) (d : Nat → Option Cst) (t : Int) (w : World) : Prop where
  out : ∃ vb vl vo vi b1 nb, SrP base S P w vb vl vo vi ∧ SrB base w vb bl ∧ Stc w.heap.size S g b1 nb w
  rows : RwS w lo S.Bb ((List.range S.n0).map (bgF g.roads S.n1 true))
  eb : bl.length = S.n1
  n0 : g.places.length = S.n0
  back : S.back = true
  cat : ∀ y, y < S.n1 → cAt bl y = (d y).getD ⟨noT, 0⟩
  lc : LC S.n1 g t d
theorem RwS.bel {W W' : World} {lo Bo : Nat} {Ls : List (List Nat)} (h : RwS W lo Bo Ls) (hb : Bel W W') : RwS W' lo Bo Ls := fun k hk => by
  obtain ⟨a, c, h1⟩ := h k hk
  exact ⟨a, c, fun w' h' => h1 w' (bel_step hb h')⟩
theorem BhS.bel {base P : Nat} {S : SrS} {g : GraphD} {lo : Nat} {bl : List Cst} {d : Nat → Option Cst} {t : Int} {w w' : World} (h : BhS base P S g lo bl d t w) (hb : Bel w w') : BhS base P S g lo bl d t w' := by
  obtain ⟨vb, vl, vo, vi, b1, nb, h1, h2, h3⟩ := h.out
  exact ⟨⟨vb, vl, vo, vi, b1, nb, own_bel h1 hb, own_bel h2 hb, (h3.bel hb).mono hb.out.size⟩, h.rows.bel hb, h.eb, h.n0, h.back, h.cat, h.lc⟩

set_option maxRecDepth 100000 in
set_option maxHeartbeats 4000000 in
theorem behind_any (base P : Nat) (S : SrS) (g : GraphD) (lo : Nat) (bl : List Cst) (d : Nat → Option Cst) (t : Int) (x : Nat) (c : Cst) (w : World) (h : BhS base P S g lo bl d t w) (hx : x < S.n1) (hdx : d x = some c) :
    Calls Tryd.prog 64 #[.pointer (some ⟨P, 0, none⟩), .int .i64 (x : Int)] w fun e w' => e = .returned (.int .i64 (nxI (nxR S.n1 g d x))) ∧ Bel w w' := by
  obtain ⟨vb, vl, vo, vi, b1, nb, hP, hB, hC⟩ := h.out
  have hg := h.lc.hg
  have m1 : S.n1 ≤ 8000 := by rw [← h.lc.hl]; exact hg.1.2.1
  have m0 : S.n0 ≤ 5000 := by rw [← h.n0]; exact hg.1.1
  have hxg : x < g.roads.length := by rw [h.lc.hl]; exact hx
  have hxb : x < bl.length := by rw [h.eb]; exact hx
  have hto := (roadB_out (hg.2.2.1 x hxg)).2.1
  rw [← rdAt_eq hxg] at hto
  obtain ⟨q, hqe⟩ : ∃ q : Nat, (rdAt g x).to = (q : Int) := ⟨(rdAt g x).to.toNat, by omega⟩
  have hq : q < S.n0 := by rw [← h.n0]; omega
  have hqL : q < ((List.range S.n0).map (bgF g.roads S.n1 true)).length := by simpa using hq
  obtain ⟨ra, rc, hrw⟩ := h.rows q hqL
  have erow : ((List.range S.n0).map (bgF g.roads S.n1 true))[q] = bgF g.roads S.n1 true q := by simp
  rw [erow] at hrw
  have HNX : Hid (nxR S.n1 g d x = (bgF g.roads S.n1 true q).find? (isN S.n1 g d x)) := (by unfold nxR; rw [hqe, Int.toNat_natCast] : nxR S.n1 g d x = (bgF g.roads S.n1 true q).find? (isN S.n1 g d x))
  have HMem : Hid (∀ y ∈ bgF g.roads S.n1 true q, y < S.n1) := fun y hy => bgF_mem hy
  obtain ⟨row, Hrow⟩ : ∃ l, Hid (bgF g.roads S.n1 true q = l) := ⟨_, (rfl : bgF g.roads S.n1 true q = _)⟩
  rw [Hrow.out] at hrw HNX HMem
  obtain ⟨m, Hm⟩ : ∃ n, Hid (row.length = n) := ⟨_, (rfl : row.length = _)⟩
  rw [Hm.out] at hrw
  have mm : m ≤ 8000 := by rw [← Hm.out, ← Hrow.out]; exact Nat.le_trans (bgF_len _ _ _ _) m1
  obtain ⟨R, HR⟩ : ∃ r, Hid (nxR S.n1 g d x = r) := ⟨_, (rfl : nxR S.n1 g d x = _)⟩
  rw [HR.out] at HNX ⊢
  obtain ⟨b, off, ff, ea, hbl, hrx⟩ := hC.roads.out hxg
  obtain ⟨_, _, _, _, _, _, _, _, y1, _⟩ := hrx x hxg
  rw [← rdAt_eq hxg, hqe] at y1
  obtain ⟨gb, cb, hvb, _, hgl⟩ := own_in hB (by omega)
  subst hvb
  have hcx : cAt bl x = c := by rw [h.cat x hx, hdx]; rfl
  obtain ⟨n0, H0⟩ : ∃ n, Hid (S.n0 = n) := ⟨_, (rfl : S.n0 = _)⟩
  obtain ⟨n1, H1⟩ : ∃ n, Hid (S.n1 = n) := ⟨_, (rfl : S.n1 = _)⟩
  have HS1 : Hid (∀ w', Bel w w' → w'.cell? ⟨P, 3, none⟩ = some (.slice (some ⟨S.Bb, 0, none⟩) n0 n0) ∧ w'.cell? ⟨P, 1, none⟩ = some (.slice (some ⟨b, off, none⟩) n1 S.c1) ∧ w'.cell? ⟨b, off + x * 6 + 1, none⟩ = some (.int .i64 (q : Int)) ∧ w'.cell? ⟨S.Bb, q, none⟩ = some (.slice ra m rc)) := (fun w' h' => by
    have k1 := SrP.at (own_bel hP h') 1 (by omega)
    have k3 := SrP.at (own_bel hP h') 3 (by omega)
    simp only [List.getElem_cons_zero, List.getElem_cons_succ] at k1 k3
    rw [ea, H1.out] at k1
    rw [H0.out] at k3
    exact ⟨k3, k1, bel_cellM h' hbl y1, (hrw w' h').1⟩ : ∀ w', Bel w w' → w'.cell? ⟨P, 3, none⟩ = some (.slice (some ⟨S.Bb, 0, none⟩) n0 n0) ∧ w'.cell? ⟨P, 1, none⟩ = some (.slice (some ⟨b, off, none⟩) n1 S.c1) ∧ w'.cell? ⟨b, off + x * 6 + 1, none⟩ = some (.int .i64 (q : Int)) ∧ w'.cell? ⟨S.Bb, q, none⟩ = some (.slice ra m rc))
  have HRow : Hid (∀ w', Bel w w' → w'.ownsRow lo 2 1 (.slice ra m rc) m (intsN row)) := fun w' h' => (hrw w' h').2.1
  have HS4 : Hid (∀ y, y < n1 → ∀ w', Bel w w' → w'.cell? ⟨P, 9, none⟩ = some (.slice (some ⟨gb, 0, none⟩) n1 cb) ∧ w'.cell? ⟨P, 5, none⟩ = some (.map (some S.M)) ∧ w'.cell? ⟨gb, y * 2, none⟩ = some (.int .i64 (cAt bl y).t) ∧ w'.cell? ⟨gb, y * 2 + 1, none⟩ = some (.int .i64 (cAt bl y).c) ∧ w'.cell? ⟨gb, x * 2, none⟩ = some (.int .i64 c.t) ∧ w'.cell? ⟨gb, x * 2 + 1, none⟩ = some (.int .i64 c.c)) := (fun y hy w' h' => by
    have hyb : y < bl.length := by rw [h.eb, H1.out]; exact hy
    have k9 := SrP.at (own_bel hP h') 9 (by omega)
    simp only [List.getElem_cons_zero, List.getElem_cons_succ] at k9
    rw [h.eb, H1.out] at k9
    have q1 := SrB.at (own_bel hB h') rfl hyb
    have q2 := SrB.at (own_bel hB h') rfl hxb
    rw [← cAt_eq hyb] at q1
    rw [← cAt_eq hxb, hcx] at q2
    exact ⟨k9, SrP.at (own_bel hP h') 5 (by omega), q1.1, q1.2, q2.1, q2.2⟩ : ∀ y, y < n1 → ∀ w', Bel w w' → w'.cell? ⟨P, 9, none⟩ = some (.slice (some ⟨gb, 0, none⟩) n1 cb) ∧ w'.cell? ⟨P, 5, none⟩ = some (.map (some S.M)) ∧ w'.cell? ⟨gb, y * 2, none⟩ = some (.int .i64 (cAt bl y).t) ∧ w'.cell? ⟨gb, y * 2 + 1, none⟩ = some (.int .i64 (cAt bl y).c) ∧ w'.cell? ⟨gb, x * 2, none⟩ = some (.int .i64 c.t) ∧ w'.cell? ⟨gb, x * 2 + 1, none⟩ = some (.int .i64 c.c))
  have HTh : Hid (∀ y cy, d y = some cy → ∀ w', Bel w w' → Calls Tryd.prog 85 #[.pointer (some ⟨P, 0, none⟩), .int .i64 (y : Int), .int .i64 (x : Int)] w' fun e w'' => e = .returned (cstV (cy.plus (stpC true g y x))) ∧ Bel w' w'') := (fun y cy hy w' h' => by
    have hbd := h.lc.bd y cy hy
    have hyb : y < bl.length := by rw [h.eb]; exact hbd.1
    have hC' := hC.bel h'
    have e : bl[y] = cy := by rw [← cAt_eq hyb, h.cat y hbd.1, hy]; rfl
    have k := through_any base P S _ vl vo vi g b1 bl y x w' (own_bel hP h') (own_bel hB h') hC'.roads hC'.winds hC'.len h.eb hC'.ok hyb hx (by rw [e]; omega)
    rw [e, h.back] at k
    exact k : ∀ y cy, d y = some cy → ∀ w', Bel w w' → Calls Tryd.prog 85 #[.pointer (some ⟨P, 0, none⟩), .int .i64 (y : Int), .int .i64 (x : Int)] w' fun e w'' => e = .returned (cstV (cy.plus (stpC true g y x))) ∧ Bel w' w'')
  have HBn : Hid (∀ y, y < n1 → ∀ w', Bel w w' → Calls Tryd.prog 86 #[.map (some S.M), .agg #[.int .i64 (x : Int), .int .i64 (y : Int)]] w' fun e w'' => e = .returned (.bool (bnd (mkS S.n1 true) g y x)) ∧ Bel w' w'') := (fun y hy w' h' => by
    have hm1 := m1
    rw [H1.out] at hm1
    exact bhas_any _ _ _ _ _ w' (hC.bel h').bans ⟨by omega, by omega⟩ ⟨by omega, by omega⟩)
  have HCat : Hid (∀ y, y < n1 → cAt bl y = (d y).getD ⟨noT, 0⟩) := fun y hy => h.cat y (by rw [H1.out]; exact hy)
  have HBd : Hid (∀ y cy, d y = some cy → cy.t < noT ∧ 0 ≤ cy.t ∧ cy.t ≤ 1000000000000) := fun y cy hy => by
    have hbd := h.lc.bd y cy hy
    refine ⟨?_, by omega, by omega⟩
    show cy.t < 9223372036854775807
    omega
  have Hdx : Hid (d x = some c) := hdx
  rw [H1.out] at HNX HMem HBn
  rw [H1.out] at hx m1
  have hxI : (x : Int) < (n1 : Int) := by omega
  have hqI : (q : Int) < (n0 : Int) := by rw [← H0.out]; omega
  have hPl := (SrP.lt hP).2
  clear hP hB hC hrx hrw y1 hcx h hdx hto hq hqL erow
  go_enter Tryd.func64, Tryd.ntmps64
  go_upto_region 1 with fail
  refine wp_region_noPanic ?_
  refine wp_region_held_drew (S := fun w' => w'.cell? ⟨P, 3, none⟩ = some (.slice (some ⟨S.Bb, 0, none⟩) n0 n0) ∧ w'.cell? ⟨P, 1, none⟩ = some (.slice (some ⟨b, off, none⟩) n1 S.c1) ∧ w'.cell? ⟨b, off + x * 6 + 1, none⟩ = some (.int .i64 (q : Int)) ∧ w'.cell? ⟨S.Bb, q, none⟩ = some (.slice ra m rc)) (by kernel_rfl) (HS1.out _ (Bel.refl _).drew) (fun hHeld => ?_)
  have hY0 : Bel w w.drew := (Bel.refl _).drew
  generalize w.drew = Y at hHeld hY0 ⊢
  refine tk 0 hHeld ?_; refine tk 1 hHeld ?_; refine tk 2 hHeld ?_; refine tk 3 hHeld ?_; refine tk 4 hHeld ?_; refine tk 5 hHeld ?_; refine tk 6 hHeld ?_; refine tk 7 hHeld ?_; refine tk 8 hHeld ?_; refine tk 9 hHeld ?_; refine tk 10 hHeld ?_
  refine tk 11 hHeld ?_; refine tk 12 hHeld ?_; refine tk 13 hHeld ?_; refine tk 14 hHeld ?_; refine tk 15 hHeld ?_; refine tk 16 hHeld ?_; refine tk 17 hHeld ?_; refine tk 18 hHeld ?_; refine tk 19 hHeld ?_; refine tk 20 hHeld ?_
  refine wpAnyH_done (by kernel_rfl) ?_ _
  refine NoPanic.normal ?_
  clear hHeld
  have HBY : Hid (Bel w Y) := hY0
  clear hY0
  go_wp2_with fail
  go_loopw [6, 27] (fun _ i wr => ∃ k : Nat, k ≤ m ∧ i = .int .i64 k ∧ Hid (∀ i (h : i < row.length), i < k → isN n1 g d x row[i] = false) ∧ Hid (Bel w wr)) (fun _ i _ => m - (intOf i).toNat)
  case atStart => exact ⟨0, Nat.zero_le _, rfl, (fun _ _ h => absurd h (Nat.not_lt_zero _)), HBY⟩
  case round =>
    clear HBY
    obtain ⟨k, hk, rfl, HNo, HB⟩ := hrel
    by_cases hlt : k < m
    · have hkr : k < row.length := by rw [Hm.out]; exact hlt
      obtain ⟨ga, cap, ev, _, _⟩ := own_in (HRow.out wr HB.out) (by omega)
      simp only [Value.slice.injEq] at ev
      obtain ⟨rfl, _, rfl⟩ := ev
      have hrow := HRow.out wr HB.out
      have r0 : wr.cell? ⟨ga, k, none⟩ = some (.int .i64 (row[k] : Int)) := by
        rw [hrow.cellAt k (by omega)]
        unfold intsN
        rw [List.getElem?_map, List.getElem?_eq_getElem hkr]
        rfl
      have rl := (World.ownsRow.lt hrow ga rfl).2
      have hyn := HMem.out row[k] (List.getElem_mem _)
      obtain ⟨y, Hy⟩ : ∃ y, Hid (row[k] = y) := ⟨_, (rfl : row[k] = _)⟩
      rw [Hy.out] at r0 hyn
      have hyI : (y : Int) < (n1 : Int) := by omega
      have hkI : (k : Int) < (m : Int) := by omega
      have HStep : Hid (isN n1 g d x y = false → ∀ i (h : i < row.length), i < k + 1 → isN n1 g d x row[i] = false) := (fun hf i h hi => by
        by_cases e : i = k
        · subst e; rw [Hy.out]; exact hf
        · exact HNo.out i h (by omega) : isN n1 g d x y = false → ∀ i (h : i < row.length), i < k + 1 → isN n1 g d x row[i] = false)
      have HHit : Hid (isN n1 g d x y = true → R = some y) := (fun ht => by rw [HNX.out, find_at hkr HNo.out (by rw [Hy.out]; exact ht), Hy.out] : isN n1 g d x y = true → R = some y)
      have HIn : Hid (∀ cy, d y = some cy → isN n1 g d x y = (!(bnd (mkS n1 true) g y x) && decide (cy.plus (stpC true g y x) = c))) := (fun cy hy => by
        unfold isN
        rw [hy, Hdx.out]
        simp only [Option.some.injEq]
        rw [show decide (c = cy.plus (stpC true g y x)) = decide (cy.plus (stpC true g y x) = c) from by simp only [eq_comm]] : ∀ cy, d y = some cy → isN n1 g d x y = (!(bnd (mkS n1 true) g y x) && decide (cy.plus (stpC true g y x) = c)))
      have HIn0 : Hid (d y = none → isN n1 g d x y = false) := (fun hy => by unfold isN; rw [hy] : d y = none → isN n1 g d x y = false)
      have HS := HS4.out y hyn
      have HSY := HS wr.drew (bel_step HB.out (Bel.refl _).drew)
      have HBn1 : Hid (∀ w', Bel w w' → Calls Tryd.prog 86 #[.map (some S.M), .agg #[.int .i64 (x : Int), .int .i64 (y : Int)]] w' fun e w'' => e = .returned (.bool (bnd (mkS n1 true) g y x)) ∧ Bel w' w'') := HBn.out y hyn
      have HC1 := HCat.out y hyn
      clear hrow
      go_wp2_with fail
      go_upto_region 4 with fail
      clear r0 rl
      obtain ⟨z, Hz⟩ : ∃ z, Hid (isN n1 g d x y = z) := ⟨_, (rfl : isN n1 g d x y = _)⟩
      go_cut [66] (fun v wx => v = .bool z ∧ Hid (Bel w wx))
      case first =>
        cases hdy : d y with
        | none =>
          have HF : Hid (isN n1 g d x y = false) := HIn0.out hdy
          rw [hdy] at HC1
          rw [HC1] at HSY
          have hnt : ¬ (9223372036854775807 : Int) < 9223372036854775807 := by omega
          have HSY' : wr.drew.cell? ⟨P, 9, none⟩ = some (.slice (some ⟨gb, 0, none⟩) n1 cb) ∧ wr.drew.cell? ⟨gb, y * 2, none⟩ = some (.int .i64 9223372036854775807) := ⟨HSY.1, HSY.2.2.1⟩
          clear HSY HS
          refine wp_region_noPanic ?_
          refine wp_region_held_drew (S := fun w' => w'.cell? ⟨P, 9, none⟩ = some (.slice (some ⟨gb, 0, none⟩) n1 cb) ∧ w'.cell? ⟨gb, y * 2, none⟩ = some (.int .i64 9223372036854775807)) (by kernel_rfl) HSY' (fun hHeld => ?_)
          have hY0 : Bel w wr.drew := bel_step HB.out (Bel.refl _).drew
          generalize wr.drew = Y at hHeld hY0 ⊢
          refine tk 0 hHeld ?_; refine tk 1 hHeld ?_; refine tk 2 hHeld ?_; refine tk 3 hHeld ?_; refine tk 4 hHeld ?_; refine tk 5 hHeld ?_; refine tk 6 hHeld ?_; refine tk 7 hHeld ?_; refine tk 8 hHeld ?_; refine tk 9 hHeld ?_
          refine sk 10 hHeld ?_; refine sk 11 hHeld ?_; refine sk 12 hHeld ?_; refine sk 13 hHeld ?_; refine sk 14 hHeld ?_; refine sk 15 hHeld ?_; refine sk 16 hHeld ?_; refine sk 17 hHeld ?_; refine sk 18 hHeld ?_; refine sk 19 hHeld ?_; refine sk 20 hHeld ?_; refine sk 21 hHeld ?_
          refine tk 22 hHeld ?_; refine tk 23 hHeld ?_
          refine sk 24 hHeld ?_; refine sk 25 hHeld ?_; refine sk 26 hHeld ?_; refine sk 27 hHeld ?_; refine sk 28 hHeld ?_; refine sk 29 hHeld ?_; refine sk 30 hHeld ?_; refine sk 31 hHeld ?_; refine sk 32 hHeld ?_; refine sk 33 hHeld ?_; refine sk 34 hHeld ?_
          refine tk 35 hHeld ?_
          refine wpAnyH_done (by kernel_rfl) ?_ _
          refine NoPanic.normal ?_
          go_wp2_with fail
          go_meet
          case rel => exact ⟨by rw [← Hz.out, HF.out], hY0⟩
        | some cy =>
          have HI := HIn.out cy hdy
          obtain ⟨tt, tz, tm⟩ := HBd.out y cy hdy
          have hnt : cy.t < 9223372036854775807 := tt
          have hcT := HTh.out y cy hdy
          obtain ⟨u, Hu⟩ : ∃ u, Hid (cy.plus (stpC true g y x) = u) := ⟨_, (rfl : cy.plus (stpC true g y x) = _)⟩
          rw [Hu.out] at hcT HI
          rw [hdy] at HC1
          rw [show cAt bl y = cy from HC1] at HSY
          have hEq := fun w => cstEq u c w
          obtain ⟨r, Hr⟩ : ∃ r, Hid (decide (u = c) = r) := ⟨_, (rfl : decide (u = c) = _)⟩
          rw [Hr.out] at hEq HI
          obtain ⟨bn, Hbn⟩ : ∃ b, Hid (bnd (mkS n1 true) g y x = b) := ⟨_, (rfl : bnd (mkS n1 true) g y x = _)⟩
          rw [Hbn.out] at HBn1 HI
          have HJ : Hid (isN n1 g d x y = (!bn && r)) := HI
          clear HI
          have HS2 : Hid (∀ w', Bel w w' → w'.cell? ⟨P, 9, none⟩ = some (.slice (some ⟨gb, 0, none⟩) n1 cb) ∧ w'.cell? ⟨P, 5, none⟩ = some (.map (some S.M)) ∧ w'.cell? ⟨gb, y * 2, none⟩ = some (.int .i64 cy.t) ∧ w'.cell? ⟨gb, y * 2 + 1, none⟩ = some (.int .i64 cy.c) ∧ w'.cell? ⟨gb, x * 2, none⟩ = some (.int .i64 c.t) ∧ w'.cell? ⟨gb, x * 2 + 1, none⟩ = some (.int .i64 c.c)) := (fun w' h' => by
            have k := HS w' h'
            rw [show cAt bl y = cy from HC1] at k
            exact k : ∀ w', Bel w w' → w'.cell? ⟨P, 9, none⟩ = some (.slice (some ⟨gb, 0, none⟩) n1 cb) ∧ w'.cell? ⟨P, 5, none⟩ = some (.map (some S.M)) ∧ w'.cell? ⟨gb, y * 2, none⟩ = some (.int .i64 cy.t) ∧ w'.cell? ⟨gb, y * 2 + 1, none⟩ = some (.int .i64 cy.c) ∧ w'.cell? ⟨gb, x * 2, none⟩ = some (.int .i64 c.t) ∧ w'.cell? ⟨gb, x * 2 + 1, none⟩ = some (.int .i64 c.c))
          have HcT : Hid (∀ w', Bel w w' → Calls Tryd.prog 85 #[.pointer (some ⟨P, 0, none⟩), .int .i64 (y : Int), .int .i64 (x : Int)] w' fun e w'' => e = .returned (cstV u) ∧ Bel w' w'') := hcT
          clear hcT HS HC1
          refine wp_region_noPanic ?_
          refine wp_region_held_drew (S := fun w' => w'.cell? ⟨P, 9, none⟩ = some (.slice (some ⟨gb, 0, none⟩) n1 cb) ∧ w'.cell? ⟨P, 5, none⟩ = some (.map (some S.M)) ∧ w'.cell? ⟨gb, y * 2, none⟩ = some (.int .i64 cy.t) ∧ w'.cell? ⟨gb, y * 2 + 1, none⟩ = some (.int .i64 cy.c) ∧ w'.cell? ⟨gb, x * 2, none⟩ = some (.int .i64 c.t) ∧ w'.cell? ⟨gb, x * 2 + 1, none⟩ = some (.int .i64 c.c)) (by kernel_rfl) HSY (fun hHeld => ?_)
          have hY0 : Bel w wr.drew := bel_step HB.out (Bel.refl _).drew
          clear HSY
          generalize wr.drew = Y at hHeld hY0 ⊢
          refine tk 0 hHeld ?_; refine tk 1 hHeld ?_; refine tk 2 hHeld ?_; refine tk 3 hHeld ?_; refine tk 4 hHeld ?_; refine tk 5 hHeld ?_; refine tk 6 hHeld ?_; refine tk 7 hHeld ?_; refine tk 8 hHeld ?_; refine tk 9 hHeld ?_
          refine tk 10 hHeld ?_; refine tk 11 hHeld ?_; refine tk 12 hHeld ?_; refine tk 14 hHeld ?_; refine tk 15 hHeld ?_; refine tk 16 hHeld ?_; refine tk 17 hHeld ?_; refine tk 18 hHeld ?_; refine tk 19 hHeld ?_; refine tk 20 hHeld ?_
          refine rd1 13 (fun K hK => ?_)
          go_simp
          refine (HcT.out _ hY0).mono ?_
          rintro e Z ⟨rfl, hbZ⟩
          have hZ0 := bel_step hY0 hbZ
          go_wp2_with fail
          refine hK.out _ _ (HS2.out Z hZ0) (fun hHeld' => ?_)
          clear hK K hHeld
          have hHeld := hHeld'
          clear hHeld'
          try simp only [Act.put, List.setIfInBounds_toArray, List.set_cons_zero, List.set_cons_succ]
          cases r
          · refine tk 21 hHeld ?_; refine tk 22 hHeld ?_; refine tk 23 hHeld ?_
            refine sk 24 hHeld ?_; refine sk 25 hHeld ?_; refine sk 26 hHeld ?_; refine sk 27 hHeld ?_; refine sk 28 hHeld ?_; refine sk 29 hHeld ?_; refine sk 30 hHeld ?_; refine sk 31 hHeld ?_; refine sk 32 hHeld ?_; refine sk 33 hHeld ?_; refine sk 34 hHeld ?_
            refine tk 35 hHeld ?_
            refine wpAnyH_done (by kernel_rfl) ?_ _
            refine NoPanic.normal ?_
            go_wp2_with fail
            go_meet
            case rel => exact ⟨by rw [← Hz.out, HJ.out]; simp, hZ0⟩
          · refine tk 21 hHeld ?_; refine tk 22 hHeld ?_; refine tk 23 hHeld ?_
            refine tk 24 hHeld ?_; refine tk 25 hHeld ?_; refine tk 26 hHeld ?_; refine tk 27 hHeld ?_; refine tk 28 hHeld ?_; refine tk 29 hHeld ?_; refine tk 30 hHeld ?_; refine tk 31 hHeld ?_; refine tk 32 hHeld ?_
            refine rd1 33 (fun K hK => ?_)
            go_simp
            refine (HBn1.out _ hZ0).mono ?_
            rintro e V ⟨rfl, hbV⟩
            have hV0 := bel_step hZ0 hbV
            go_wp2_with fail
            refine hK.out _ _ (HS2.out V hV0) (fun hHeld' => ?_)
            clear hK K hHeld
            have hHeld := hHeld'
            clear hHeld'
            try simp only [Act.put, List.setIfInBounds_toArray, List.set_cons_zero, List.set_cons_succ]
            refine tk 34 hHeld ?_; refine tk 35 hHeld ?_
            refine wpAnyH_done (by kernel_rfl) ?_ _
            refine NoPanic.normal ?_
            go_wp2_with fail
            go_meet
            case rel => exact ⟨by rw [← Hz.out, HJ.out]; simp, hV0⟩
      case rest =>
        obtain ⟨rfl, HBc⟩ := hcut
        cases z
        · have HN2 : Hid (∀ i (h : i < row.length), i < k + 1 → isN n1 g d x row[i] = false) := HStep.out Hz.out
          go_wp2
          go_roundw
          case rel => exact ⟨k + 1, by omega, by go_num, HN2, HBc⟩
          case measure => simp [intOf]; omega
        · have HRy : Hid (R = some y) := HHit.out Hz.out
          go_wp2
          go_ret
          exact ⟨by rw [HRy.out]; rfl, HBc.out⟩
    · have HRn : Hid (R = none) := (by rw [HNX.out]; exact find_no (fun i h => HNo.out i h (by rw [Hm.out] at h; omega)) : R = none)
      have hge : ¬ (k : Int) < (m : Int) := by omega
      go_wp2
      go_ret
      exact ⟨by rw [HRn.out]; rfl, HB.out⟩
end Go.Proofs.YtndijdnoikfnjaaDoor
