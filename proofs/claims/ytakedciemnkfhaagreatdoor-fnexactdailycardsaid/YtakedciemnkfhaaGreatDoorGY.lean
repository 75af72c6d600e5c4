/-
  The Roads of a best path in the program: behind, roadsFrom: contracts.
  The Roads of a best path, and a path that is told, in the program: roadsFrom, path: contracts.
-/
import Derived.Test.YtakedciemnkfhaaGreatDoorGX
import Derived.Deep.AppendLies
namespace Go.Proofs.YtakedciemnkfhaaGreatDoor
open Go.RowKit Go.Maps

theorem find_at {p : Nat → Bool} {l : List Nat} {k : Nat} (hk : k < l.length) (hno : ∀ i (h : i < l.length), i < k → p l[i] = false) (hy : p l[k] = true) : l.find? p = some l[k] := by
 rw [List.find?_eq_some_iff_getElem]
 exact ⟨hy, k, hk, rfl, fun j hj => by simp [hno j (by omega) hj]⟩
theorem find_no {p : Nat → Bool} {l : List Nat} (hno : ∀ i (h : i < l.length), p l[i] = false) : l.find? p = none := by
 rw [List.find?_eq_none]
 intro x hx
 obtain ⟨i, hi, rfl⟩ := List.getElem_of_mem hx
 simp [hno i hi]
/-- The Road behind, as a number: -1 for none. -/
def nxI : Option Nat → Int
 | none => -1
 | some y => y
theorem cstEq (x y : Cst) (w : World) : Sem.run Tryz.prog (binOp .eql 118 (.agg #[.int .i64 x.t, .int .i64 x.c]) (.agg #[.int .i64 y.t, .int .i64 y.c])) w = .ok (.bool (decide (x = y))) w := by
 obtain ⟨a, b⟩ := x
 obtain ⟨a', b'⟩ := y
 have e : decide ((⟨a, b⟩ : Cst) = ⟨a', b'⟩) = (decide (a = a') && decide (b = b')) := by simp
 rw [e]
 by_cases h1 : a = a' <;> by_cases h2 : b = b' <;> go_simp
/-- What behind leans on. -/
structure BhS (base : Nat) (P : Nat) (S : SrS) (g : GraphD) (lo : Nat) (bl : List Cst) (d : Nat → Option Cst) (t : Int) (w : World) : Prop where
 out : ∃ vb vl vo vi b1 nb, SrP base S P w vb vl vo vi ∧ SrB base w vb bl ∧ Stc w.heap.size S g b1 nb w
 rows : RwS w lo S.Bb ((List.range S.n0).map (bgF g.roads S.n1 true))
 eb : bl.length = S.n1
 n0 : g.places.length = S.n0
 back : S.back = true
 cat : ∀ y, y < S.n1 → cAt bl y = (d y).getD ⟨noT, 0⟩
 lc : LC S.n1 g t d
theorem RwS.bel {W W' : World} {lo Bo : Nat} {Ls : List (List Nat)} (h : RwS W lo Bo Ls) (hb : Bel W W') : RwS W' lo Bo Ls := fun k hk => by
 obtain ⟨a, c, h1⟩ := h k hk
 exact ⟨a, c, fun w' h' => h1 w' (bel_step hb h')⟩
theorem BhS.bel {base P : Nat} {S : SrS} {g : GraphD} {lo : Nat} {bl : List Cst} {d : Nat → Option Cst} {t : Int} {w w' : World} (h : BhS base P S g lo bl d t w) (hb : Bel w w') : BhS base P S g lo bl d t w' := by
 obtain ⟨vb, vl, vo, vi, b1, nb, h1, h2, h3⟩ := h.out
 exact ⟨⟨vb, vl, vo, vi, b1, nb, own_bel h1 hb, own_bel h2 hb, (h3.bel hb).mono hb.out.size⟩, h.rows.bel hb, h.eb, h.n0, h.back, h.cat, h.lc⟩

set_option maxRecDepth 100000 in
set_option maxHeartbeats 4000000 in
theorem behind_any (base P : Nat) (S : SrS) (g : GraphD) (lo : Nat) (bl : List Cst) (d : Nat → Option Cst) (t : Int) (x : Nat) (c : Cst) (w : World) (h : BhS base P S g lo bl d t w) (hx : x < S.n1) (hdx : d x = some c) :
  Calls Tryz.prog 97 #[.pointer (some ⟨P, 0, none⟩), .int .i64 (x : Int)] w fun e w' => e = .returned (.int .i64 (nxI (nxR S.n1 g d x))) ∧ Bel w w' := by
 obtain ⟨vb, vl, vo, vi, b1, nb, hP, hB, hC⟩ := h.out
 have hg := h.lc.hg
 have m1 : S.n1 ≤ 8000 := by rw [← h.lc.hl]; exact hg.1.2.1
 have m0 : S.n0 ≤ 5000 := by rw [← h.n0]; exact hg.1.1
 have hxg : x < g.roads.length := by rw [h.lc.hl]; exact hx
 have hxb : x < bl.length := by rw [h.eb]; exact hx
 have hto := (roadB_out (hg.2.2.1 x hxg)).2.1
 rw [← rdAt_eq hxg] at hto
 obtain ⟨q, hqe⟩ : ∃ q : Nat, (rdAt g x).to = (q : Int) := ⟨(rdAt g x).to.toNat, by omega⟩
 have hq : q < S.n0 := by rw [← h.n0]; omega
 have hqL : q < ((List.range S.n0).map (bgF g.roads S.n1 true)).length := by simpa using hq
 obtain ⟨ra, rc, hrw⟩ := h.rows q hqL
 have erow : ((List.range S.n0).map (bgF g.roads S.n1 true))[q] = bgF g.roads S.n1 true q := by simp
 rw [erow] at hrw
 have HNX : Hid (nxR S.n1 g d x = (bgF g.roads S.n1 true q).find? (isN S.n1 g d x)) := (by unfold nxR; rw [hqe, Int.toNat_natCast] : nxR S.n1 g d x = (bgF g.roads S.n1 true q).find? (isN S.n1 g d x))
 have HMem : Hid (∀ y ∈ bgF g.roads S.n1 true q, y < S.n1) := fun y hy => bgF_mem hy
 obtain ⟨row, Hrow⟩ : ∃ l, Hid (bgF g.roads S.n1 true q = l) := ⟨_, (rfl : bgF g.roads S.n1 true q = _)⟩
 rw [Hrow.out] at hrw HNX HMem
 obtain ⟨m, Hm⟩ : ∃ n, Hid (row.length = n) := ⟨_, (rfl : row.length = _)⟩
 rw [Hm.out] at hrw
 have mm : m ≤ 8000 := by rw [← Hm.out, ← Hrow.out]; exact Nat.le_trans (bgF_len _ _ _ _) m1
 obtain ⟨R, HR⟩ : ∃ r, Hid (nxR S.n1 g d x = r) := ⟨_, (rfl : nxR S.n1 g d x = _)⟩
 rw [HR.out] at HNX ⊢
 obtain ⟨b, off, ff, ea, hbl, hrx⟩ := hC.roads.out hxg
 obtain ⟨_, _, _, _, _, _, _, _, y1, _⟩ := hrx x hxg
 rw [← rdAt_eq hxg, hqe] at y1
 obtain ⟨gb, cb, hvb, _, hgl⟩ := own_in hB (by omega)
 subst hvb
 have hcx : cAt bl x = c := by rw [h.cat x hx, hdx]; rfl
 obtain ⟨n0, H0⟩ : ∃ n, Hid (S.n0 = n) := ⟨_, (rfl : S.n0 = _)⟩
 obtain ⟨n1, H1⟩ : ∃ n, Hid (S.n1 = n) := ⟨_, (rfl : S.n1 = _)⟩
 have HS1 : Hid (∀ w', Bel w w' → w'.cell? ⟨P, 3, none⟩ = some (.slice (some ⟨S.Bb, 0, none⟩) n0 n0) ∧ w'.cell? ⟨P, 1, none⟩ = some (.slice (some ⟨b, off, none⟩) n1 S.c1) ∧ w'.cell? ⟨b, off + x * 6 + 1, none⟩ = some (.int .i64 (q : Int)) ∧ w'.cell? ⟨S.Bb, q, none⟩ = some (.slice ra m rc)) := (fun w' h' => by
  have k1 := SrP.at (own_bel hP h') 1 (by omega)
  have k3 := SrP.at (own_bel hP h') 3 (by omega)
  simp only [List.getElem_cons_zero, List.getElem_cons_succ] at k1 k3
  rw [ea, H1.out] at k1
  rw [H0.out] at k3
  exact ⟨k3, k1, bel_cellM h' hbl y1, (hrw w' h').1⟩ : ∀ w', Bel w w' → w'.cell? ⟨P, 3, none⟩ = some (.slice (some ⟨S.Bb, 0, none⟩) n0 n0) ∧ w'.cell? ⟨P, 1, none⟩ = some (.slice (some ⟨b, off, none⟩) n1 S.c1) ∧ w'.cell? ⟨b, off + x * 6 + 1, none⟩ = some (.int .i64 (q : Int)) ∧ w'.cell? ⟨S.Bb, q, none⟩ = some (.slice ra m rc))
 have HRow : Hid (∀ w', Bel w w' → w'.ownsRow lo 2 1 (.slice ra m rc) m (intsN row)) := fun w' h' => (hrw w' h').2.1
 have HS4 : Hid (∀ y, y < n1 → ∀ w', Bel w w' → w'.cell? ⟨P, 9, none⟩ = some (.slice (some ⟨gb, 0, none⟩) n1 cb) ∧ w'.cell? ⟨P, 5, none⟩ = some (.map (some S.M)) ∧ w'.cell? ⟨gb, y * 2, none⟩ = some (.int .i64 (cAt bl y).t) ∧ w'.cell? ⟨gb, y * 2 + 1, none⟩ = some (.int .i64 (cAt bl y).c) ∧ w'.cell? ⟨gb, x * 2, none⟩ = some (.int .i64 c.t) ∧ w'.cell? ⟨gb, x * 2 + 1, none⟩ = some (.int .i64 c.c)) := (fun y hy w' h' => by
  have hyb : y < bl.length := by rw [h.eb, H1.out]; exact hy
  have k9 := SrP.at (own_bel hP h') 9 (by omega)
  simp only [List.getElem_cons_zero, List.getElem_cons_succ] at k9
  rw [h.eb, H1.out] at k9
  have q1 := SrB.at (own_bel hB h') rfl hyb
  have q2 := SrB.at (own_bel hB h') rfl hxb
  rw [← cAt_eq hyb] at q1
  rw [← cAt_eq hxb, hcx] at q2
  exact ⟨k9, SrP.at (own_bel hP h') 5 (by omega), q1.1, q1.2, q2.1, q2.2⟩ : ∀ y, y < n1 → ∀ w', Bel w w' → w'.cell? ⟨P, 9, none⟩ = some (.slice (some ⟨gb, 0, none⟩) n1 cb) ∧ w'.cell? ⟨P, 5, none⟩ = some (.map (some S.M)) ∧ w'.cell? ⟨gb, y * 2, none⟩ = some (.int .i64 (cAt bl y).t) ∧ w'.cell? ⟨gb, y * 2 + 1, none⟩ = some (.int .i64 (cAt bl y).c) ∧ w'.cell? ⟨gb, x * 2, none⟩ = some (.int .i64 c.t) ∧ w'.cell? ⟨gb, x * 2 + 1, none⟩ = some (.int .i64 c.c))
 have HTh : Hid (∀ y cy, d y = some cy → ∀ w', Bel w w' → Calls Tryz.prog 117 #[.pointer (some ⟨P, 0, none⟩), .int .i64 (y : Int), .int .i64 (x : Int)] w' fun e w'' => e = .returned (cstV (cy.plus (stpC true g y x))) ∧ Bel w' w'') := (fun y cy hy w' h' => by
  have hbd := h.lc.bd y cy hy
  have hyb : y < bl.length := by rw [h.eb]; exact hbd.1
  have hC' := hC.bel h'
  have e : bl[y] = cy := by rw [← cAt_eq hyb, h.cat y hbd.1, hy]; rfl
  have k := through_any base P S _ vl vo vi g b1 bl y x w' (own_bel hP h') (own_bel hB h') hC'.roads hC'.winds hC'.len h.eb hC'.ok hyb hx (by rw [e]; omega)
  rw [e, h.back] at k
  exact k : ∀ y cy, d y = some cy → ∀ w', Bel w w' → Calls Tryz.prog 117 #[.pointer (some ⟨P, 0, none⟩), .int .i64 (y : Int), .int .i64 (x : Int)] w' fun e w'' => e = .returned (cstV (cy.plus (stpC true g y x))) ∧ Bel w' w'')
 have HBn : Hid (∀ y, y < n1 → ∀ w', Bel w w' → Calls Tryz.prog 118 #[.map (some S.M), .agg #[.int .i64 (x : Int), .int .i64 (y : Int)]] w' fun e w'' => e = .returned (.bool (bnd (mkS S.n1 true) g y x)) ∧ Bel w' w'') := (fun y hy w' h' => by
  have hm1 := m1
  rw [H1.out] at hm1
  exact bhas_any _ _ _ _ _ w' (hC.bel h').bans ⟨by omega, by omega⟩ ⟨by omega, by omega⟩)
 have HCat : Hid (∀ y, y < n1 → cAt bl y = (d y).getD ⟨noT, 0⟩) := fun y hy => h.cat y (by rw [H1.out]; exact hy)
 have HBd : Hid (∀ y cy, d y = some cy → cy.t < noT ∧ 0 ≤ cy.t ∧ cy.t ≤ 1000000000000) := fun y cy hy => by
  have hbd := h.lc.bd y cy hy
  refine ⟨?_, by omega, by omega⟩
  show cy.t < 9223372036854775807
  omega
 have Hdx : Hid (d x = some c) := hdx
 rw [H1.out] at HNX HMem HBn
 rw [H1.out] at hx m1
 have hxI : (x : Int) < (n1 : Int) := by omega
 have hqI : (q : Int) < (n0 : Int) := by rw [← H0.out]; omega
 have hPl := (SrP.lt hP).2
 clear hP hB hC hrx hrw y1 hcx h hdx hto hq hqL erow
 go_enter Tryz.func97, Tryz.ntmps97
 go_upto_region 1 with fail
 refine wp_region_noPanic ?_
 refine wp_region_held_drew (S := fun w' => w'.cell? ⟨P, 3, none⟩ = some (.slice (some ⟨S.Bb, 0, none⟩) n0 n0) ∧ w'.cell? ⟨P, 1, none⟩ = some (.slice (some ⟨b, off, none⟩) n1 S.c1) ∧ w'.cell? ⟨b, off + x * 6 + 1, none⟩ = some (.int .i64 (q : Int)) ∧ w'.cell? ⟨S.Bb, q, none⟩ = some (.slice ra m rc)) (by kernel_rfl) (HS1.out _ (Bel.refl _).drew) (fun hHeld => ?_)
 have hY0 : Bel w w.drew := (Bel.refl _).drew
 generalize w.drew = Y at hHeld hY0 ⊢
 refine tk 0 hHeld ?_; refine tk 1 hHeld ?_; refine tk 2 hHeld ?_; refine tk 3 hHeld ?_; refine tk 4 hHeld ?_; refine tk 5 hHeld ?_; refine tk 6 hHeld ?_; refine tk 7 hHeld ?_; refine tk 8 hHeld ?_; refine tk 9 hHeld ?_; refine tk 10 hHeld ?_
 refine tk 11 hHeld ?_; refine tk 12 hHeld ?_; refine tk 13 hHeld ?_; refine tk 14 hHeld ?_; refine tk 15 hHeld ?_; refine tk 16 hHeld ?_; refine tk 17 hHeld ?_; refine tk 18 hHeld ?_; refine tk 19 hHeld ?_; refine tk 20 hHeld ?_
 refine wpAnyH_done (by kernel_rfl) ?_ _
 refine NoPanic.normal ?_
 clear hHeld
 have HBY : Hid (Bel w Y) := hY0
 clear hY0
 go_wp2_with fail
 go_loopw [6, 27] (fun _ i wr => ∃ k : Nat, k ≤ m ∧ i = .int .i64 k ∧ Hid (∀ i (h : i < row.length), i < k → isN n1 g d x row[i] = false) ∧ Hid (Bel w wr)) (fun _ i _ => m - (intOf i).toNat)
 case atStart => exact ⟨0, Nat.zero_le _, rfl, (fun _ _ h => absurd h (Nat.not_lt_zero _)), HBY⟩
 case round =>
  clear HBY
  obtain ⟨k, hk, rfl, HNo, HB⟩ := hrel
  by_cases hlt : k < m
  ·have hkr : k < row.length := by rw [Hm.out]; exact hlt
   obtain ⟨ga, cap, ev, _, _⟩ := own_in (HRow.out wr HB.out) (by omega)
   simp only [Value.slice.injEq] at ev
   obtain ⟨rfl, _, rfl⟩ := ev
   have hrow := HRow.out wr HB.out
   have r0 : wr.cell? ⟨ga, k, none⟩ = some (.int .i64 (row[k] : Int)) := by
    rw [hrow.cellAt k (by omega)]
    unfold intsN
    rw [List.getElem?_map, List.getElem?_eq_getElem hkr]
    rfl
   have rl := (World.ownsRow.lt hrow ga rfl).2
   have hyn := HMem.out row[k] (List.getElem_mem _)
   obtain ⟨y, Hy⟩ : ∃ y, Hid (row[k] = y) := ⟨_, (rfl : row[k] = _)⟩
   rw [Hy.out] at r0 hyn
   have hyI : (y : Int) < (n1 : Int) := by omega
   have hkI : (k : Int) < (m : Int) := by omega
   have HStep : Hid (isN n1 g d x y = false → ∀ i (h : i < row.length), i < k + 1 → isN n1 g d x row[i] = false) := (fun hf i h hi => by
    by_cases e : i = k
    ·subst e; rw [Hy.out]; exact hf
    ·exact HNo.out i h (by omega) : isN n1 g d x y = false → ∀ i (h : i < row.length), i < k + 1 → isN n1 g d x row[i] = false)
   have HHit : Hid (isN n1 g d x y = true → R = some y) := (fun ht => by rw [HNX.out, find_at hkr HNo.out (by rw [Hy.out]; exact ht), Hy.out] : isN n1 g d x y = true → R = some y)
   have HIn : Hid (∀ cy, d y = some cy → isN n1 g d x y = (!(bnd (mkS n1 true) g y x) && decide (cy.plus (stpC true g y x) = c))) := (fun cy hy => by
    unfold isN
    rw [hy, Hdx.out]
    simp only [Option.some.injEq]
    rw [show decide (c = cy.plus (stpC true g y x)) = decide (cy.plus (stpC true g y x) = c) from by simp only [eq_comm]] : ∀ cy, d y = some cy → isN n1 g d x y = (!(bnd (mkS n1 true) g y x) && decide (cy.plus (stpC true g y x) = c)))
   have HIn0 : Hid (d y = none → isN n1 g d x y = false) := (fun hy => by unfold isN; rw [hy] : d y = none → isN n1 g d x y = false)
   have HS := HS4.out y hyn
   have HSY := HS wr.drew (bel_step HB.out (Bel.refl _).drew)
   have HBn1 : Hid (∀ w', Bel w w' → Calls Tryz.prog 118 #[.map (some S.M), .agg #[.int .i64 (x : Int), .int .i64 (y : Int)]] w' fun e w'' => e = .returned (.bool (bnd (mkS n1 true) g y x)) ∧ Bel w' w'') := HBn.out y hyn
   have HC1 := HCat.out y hyn
   clear hrow
   go_wp2_with fail
   go_upto_region 4 with fail
   clear r0 rl
   obtain ⟨z, Hz⟩ : ∃ z, Hid (isN n1 g d x y = z) := ⟨_, (rfl : isN n1 g d x y = _)⟩
   go_cut [66] (fun v wx => v = .bool z ∧ Hid (Bel w wx))
   case first =>
    cases hdy : d y with
    | none =>
     have HF : Hid (isN n1 g d x y = false) := HIn0.out hdy
     rw [hdy] at HC1
     rw [HC1] at HSY
     have hnt : ¬ (9223372036854775807 : Int) < 9223372036854775807 := by omega
     have HSY' : wr.drew.cell? ⟨P, 9, none⟩ = some (.slice (some ⟨gb, 0, none⟩) n1 cb) ∧ wr.drew.cell? ⟨gb, y * 2, none⟩ = some (.int .i64 9223372036854775807) := ⟨HSY.1, HSY.2.2.1⟩
     clear HSY HS
     refine wp_region_noPanic ?_
     refine wp_region_held_drew (S := fun w' => w'.cell? ⟨P, 9, none⟩ = some (.slice (some ⟨gb, 0, none⟩) n1 cb) ∧ w'.cell? ⟨gb, y * 2, none⟩ = some (.int .i64 9223372036854775807)) (by kernel_rfl) HSY' (fun hHeld => ?_)
     have hY0 : Bel w wr.drew := bel_step HB.out (Bel.refl _).drew
     generalize wr.drew = Y at hHeld hY0 ⊢
     refine tk 0 hHeld ?_; refine tk 1 hHeld ?_; refine tk 2 hHeld ?_; refine tk 3 hHeld ?_; refine tk 4 hHeld ?_; refine tk 5 hHeld ?_; refine tk 6 hHeld ?_; refine tk 7 hHeld ?_; refine tk 8 hHeld ?_; refine tk 9 hHeld ?_
     refine sk 10 hHeld ?_; refine sk 11 hHeld ?_; refine sk 12 hHeld ?_; refine sk 13 hHeld ?_; refine sk 14 hHeld ?_; refine sk 15 hHeld ?_; refine sk 16 hHeld ?_; refine sk 17 hHeld ?_; refine sk 18 hHeld ?_; refine sk 19 hHeld ?_; refine sk 20 hHeld ?_; refine sk 21 hHeld ?_
     refine tk 22 hHeld ?_; refine tk 23 hHeld ?_
     refine sk 24 hHeld ?_; refine sk 25 hHeld ?_; refine sk 26 hHeld ?_; refine sk 27 hHeld ?_; refine sk 28 hHeld ?_; refine sk 29 hHeld ?_; refine sk 30 hHeld ?_; refine sk 31 hHeld ?_; refine sk 32 hHeld ?_; refine sk 33 hHeld ?_; refine sk 34 hHeld ?_
     refine tk 35 hHeld ?_
     refine wpAnyH_done (by kernel_rfl) ?_ _
     refine NoPanic.normal ?_
     go_wp2_with fail
     go_meet
     case rel => exact ⟨by rw [← Hz.out, HF.out], hY0⟩
    | some cy =>
     have HI := HIn.out cy hdy
     obtain ⟨tt, tz, tm⟩ := HBd.out y cy hdy
     have hnt : cy.t < 9223372036854775807 := tt
     have hcT := HTh.out y cy hdy
     obtain ⟨u, Hu⟩ : ∃ u, Hid (cy.plus (stpC true g y x) = u) := ⟨_, (rfl : cy.plus (stpC true g y x) = _)⟩
     rw [Hu.out] at hcT HI
     rw [hdy] at HC1
     rw [show cAt bl y = cy from HC1] at HSY
     have hEq := fun w => cstEq u c w
     obtain ⟨r, Hr⟩ : ∃ r, Hid (decide (u = c) = r) := ⟨_, (rfl : decide (u = c) = _)⟩
     rw [Hr.out] at hEq HI
     obtain ⟨bn, Hbn⟩ : ∃ b, Hid (bnd (mkS n1 true) g y x = b) := ⟨_, (rfl : bnd (mkS n1 true) g y x = _)⟩
     rw [Hbn.out] at HBn1 HI
     have HJ : Hid (isN n1 g d x y = (!bn && r)) := HI
     clear HI
     have HS2 : Hid (∀ w', Bel w w' → w'.cell? ⟨P, 9, none⟩ = some (.slice (some ⟨gb, 0, none⟩) n1 cb) ∧ w'.cell? ⟨P, 5, none⟩ = some (.map (some S.M)) ∧ w'.cell? ⟨gb, y * 2, none⟩ = some (.int .i64 cy.t) ∧ w'.cell? ⟨gb, y * 2 + 1, none⟩ = some (.int .i64 cy.c) ∧ w'.cell? ⟨gb, x * 2, none⟩ = some (.int .i64 c.t) ∧ w'.cell? ⟨gb, x * 2 + 1, none⟩ = some (.int .i64 c.c)) := (fun w' h' => by
      have k := HS w' h'
      rw [show cAt bl y = cy from HC1] at k
      exact k : ∀ w', Bel w w' → w'.cell? ⟨P, 9, none⟩ = some (.slice (some ⟨gb, 0, none⟩) n1 cb) ∧ w'.cell? ⟨P, 5, none⟩ = some (.map (some S.M)) ∧ w'.cell? ⟨gb, y * 2, none⟩ = some (.int .i64 cy.t) ∧ w'.cell? ⟨gb, y * 2 + 1, none⟩ = some (.int .i64 cy.c) ∧ w'.cell? ⟨gb, x * 2, none⟩ = some (.int .i64 c.t) ∧ w'.cell? ⟨gb, x * 2 + 1, none⟩ = some (.int .i64 c.c))
     have HcT : Hid (∀ w', Bel w w' → Calls Tryz.prog 117 #[.pointer (some ⟨P, 0, none⟩), .int .i64 (y : Int), .int .i64 (x : Int)] w' fun e w'' => e = .returned (cstV u) ∧ Bel w' w'') := hcT
     clear hcT HS HC1
     refine wp_region_noPanic ?_
     refine wp_region_held_drew (S := fun w' => w'.cell? ⟨P, 9, none⟩ = some (.slice (some ⟨gb, 0, none⟩) n1 cb) ∧ w'.cell? ⟨P, 5, none⟩ = some (.map (some S.M)) ∧ w'.cell? ⟨gb, y * 2, none⟩ = some (.int .i64 cy.t) ∧ w'.cell? ⟨gb, y * 2 + 1, none⟩ = some (.int .i64 cy.c) ∧ w'.cell? ⟨gb, x * 2, none⟩ = some (.int .i64 c.t) ∧ w'.cell? ⟨gb, x * 2 + 1, none⟩ = some (.int .i64 c.c)) (by kernel_rfl) HSY (fun hHeld => ?_)
     have hY0 : Bel w wr.drew := bel_step HB.out (Bel.refl _).drew
     clear HSY
     generalize wr.drew = Y at hHeld hY0 ⊢
     refine tk 0 hHeld ?_; refine tk 1 hHeld ?_; refine tk 2 hHeld ?_; refine tk 3 hHeld ?_; refine tk 4 hHeld ?_; refine tk 5 hHeld ?_; refine tk 6 hHeld ?_; refine tk 7 hHeld ?_; refine tk 8 hHeld ?_; refine tk 9 hHeld ?_
     refine tk 10 hHeld ?_; refine tk 11 hHeld ?_; refine tk 12 hHeld ?_; refine tk 14 hHeld ?_; refine tk 15 hHeld ?_; refine tk 16 hHeld ?_; refine tk 17 hHeld ?_; refine tk 18 hHeld ?_; refine tk 19 hHeld ?_; refine tk 20 hHeld ?_
     refine rd1 13 (fun K hK => ?_)
     go_simp
     refine (HcT.out _ hY0).mono ?_
     rintro e Z ⟨rfl, hbZ⟩
     have hZ0 := bel_step hY0 hbZ
     go_wp2_with fail
     refine hK.out _ _ (HS2.out Z hZ0) ?_; clear hK K hHeld; intro hHeld
     try simp only [Act.put, List.setIfInBounds_toArray, List.set_cons_zero, List.set_cons_succ]
     cases r
     ·refine tk 21 hHeld ?_; refine tk 22 hHeld ?_; refine tk 23 hHeld ?_
      refine sk 24 hHeld ?_; refine sk 25 hHeld ?_; refine sk 26 hHeld ?_; refine sk 27 hHeld ?_; refine sk 28 hHeld ?_; refine sk 29 hHeld ?_; refine sk 30 hHeld ?_; refine sk 31 hHeld ?_; refine sk 32 hHeld ?_; refine sk 33 hHeld ?_; refine sk 34 hHeld ?_
      refine tk 35 hHeld ?_
      refine wpAnyH_done (by kernel_rfl) ?_ _
      refine NoPanic.normal ?_
      go_wp2_with fail
      go_meet
      case rel => exact ⟨by rw [← Hz.out, HJ.out]; simp, hZ0⟩
     ·refine tk 21 hHeld ?_; refine tk 22 hHeld ?_; refine tk 23 hHeld ?_
      refine tk 24 hHeld ?_; refine tk 25 hHeld ?_; refine tk 26 hHeld ?_; refine tk 27 hHeld ?_; refine tk 28 hHeld ?_; refine tk 29 hHeld ?_; refine tk 30 hHeld ?_; refine tk 31 hHeld ?_; refine tk 32 hHeld ?_
      refine rd1 33 (fun K hK => ?_)
      go_simp
      refine (HBn1.out _ hZ0).mono ?_
      rintro e V ⟨rfl, hbV⟩
      have hV0 := bel_step hZ0 hbV
      go_wp2_with fail
      refine hK.out _ _ (HS2.out V hV0) ?_; clear hK K hHeld; intro hHeld
      try simp only [Act.put, List.setIfInBounds_toArray, List.set_cons_zero, List.set_cons_succ]
      refine tk 34 hHeld ?_; refine tk 35 hHeld ?_
      refine wpAnyH_done (by kernel_rfl) ?_ _
      refine NoPanic.normal ?_
      go_wp2_with fail
      go_meet
      case rel => exact ⟨by rw [← Hz.out, HJ.out]; simp, hV0⟩
   case rest =>
    obtain ⟨rfl, HBc⟩ := hcut
    cases z
    ·have HN2 : Hid (∀ i (h : i < row.length), i < k + 1 → isN n1 g d x row[i] = false) := HStep.out Hz.out
     go_wp2
     go_roundw
     case rel => exact ⟨k + 1, by omega, by go_num, HN2, HBc⟩
     case measure => simp [intOf]; omega
    ·have HRy : Hid (R = some y) := HHit.out Hz.out
     go_wp2
     go_ret
     exact ⟨by rw [HRy.out]; rfl, HBc.out⟩
  ·have HRn : Hid (R = none) := (by rw [HNX.out]; exact find_no (fun i h => HNo.out i h (by rw [Hm.out] at h; omega)) : R = none)
   have hge : ¬ (k : Int) < (m : Int) := by omega
   go_wp2
   go_ret
   exact ⟨by rw [HRn.out]; rfl, HB.out⟩
end Go.Proofs.YtakedciemnkfhaaGreatDoor

namespace Go.Proofs.YtakedciemnkfhaaGreatDoor
open Go.RowKit Go.Maps

/-- How many a slice has. -/
def slLen : Value → Nat
 | .slice _ n _ => n
 | _ => 0
/-- The Roads so far and the next one make the path. -/
def RfR (n : Nat) (g : GraphD) (d : Nat → Option Cst) (F l : List Nat) : Option Nat → Prop
 | none => l = F
 | some y => ∃ c, d y = some c ∧ l ++ chR n g d c.c.toNat y = F
theorem RfR.step {n : Nat} {g : GraphD} {t : Int} {d : Nat → Option Cst} {F l : List Nat} {y : Nat} {c : Cst} (hL : LC n g t d) (hd : d y = some c) (h : l ++ chR n g d c.c.toNat y = F) : l.length < F.length ∧ RfR n g d F (l ++ [y]) (nxR n g d y) := by
 have hb := hL.bd y c hd
 obtain ⟨k, hk⟩ : ∃ k, c.c.toNat = k + 1 := ⟨c.c.toNat - 1, by omega⟩
 rw [hk] at h
 by_cases h1 : c.c = 1
 ·have e := hL.one hd h1
  rw [chR_end e] at h
  rw [e]
  refine ⟨by rw [← h]; simp, h⟩
 ·obtain ⟨z, cz, e, h2, _, h3, _⟩ := hL.more hd (by omega)
  rw [chR_on e] at h
  rw [e]
  refine ⟨by rw [← h]; simp, cz, h2, ?_⟩
  have e2 : c.c = cz.c + 1 := by rw [h3]; rfl
  rw [show cz.c.toNat = k by omega, ← h]
  simp

set_option maxRecDepth 100000 in
set_option maxHeartbeats 4000000 in
theorem roadsFrom_any (base P : Nat) (S : SrS) (g : GraphD) (lo : Nat) (bl : List Cst) (d : Nat → Option Cst) (t : Int) (o : Option Nat) (F : List Nat) (w : World) (h : BhS base P S g lo bl d t w) (hF : RfR S.n1 g d F [] o) (hFl : F.length ≤ 8001) :
  Calls Tryz.prog 72 #[.pointer (some ⟨P, 0, none⟩), .int .i64 (nxI o)] w fun e w' => ∃ va vc, e = .returned (.slice va F.length vc) ∧ w'.ownsRow w.heap.size 2 1 (.slice va F.length vc) F.length (intsN F) ∧ Bel w w' := by
 obtain ⟨i0, hi0, hz0, hz1, hz2⟩ := info_parts infoI64
 have HBS : Hid (BhS base P S g lo bl d t w) := h
 have HF : Hid (RfR S.n1 g d F [] o) := hF
 obtain ⟨f, Hf⟩ : ∃ n, Hid (F.length = n) := ⟨_, (rfl : F.length = _)⟩
 rw [Hf.out] at hFl ⊢
 obtain ⟨nw, Hnw⟩ : ∃ n, Hid (w.heap.size = n) := ⟨_, (rfl : w.heap.size = _)⟩
 rw [Hnw.out]
 clear h hF
 go_enter Tryz.func72, Tryz.ntmps72
 go_wp2_with fail
 go_loopw [1, 5] (fun r v wr => ∃ (l : List Nat) (o : Option Nat) (m : Nat) (va : Option Addr) (vc : Nat), r = .int .i64 (nxI o) ∧ v = .slice va m vc ∧ m ≤ f ∧ Hid (l.length = m) ∧ Hid (wr.ownsRow nw 2 1 (.slice va m vc) m (intsN l)) ∧ Hid (RfR S.n1 g d F l o) ∧ Hid (Bel w wr)) (fun _ v _ => f - slLen v)
 case atStart => exact ⟨[], o, 0, none, 0, rfl, rfl, Nat.zero_le _, (rfl : [].length = 0), World.ownsRow_nil _ _ _ _, HF, Bel.refl _⟩
 case round =>
  clear HF
  obtain ⟨l, o, m, va, vc, rfl, rfl, hmf, Hl, HO, HR, HB⟩ := hrel
  cases o with
  | none =>
   have e : l = F := HR.out
   have e2 : m = f := by rw [← Hl.out, e, Hf.out]
   have HOE : Hid (wr.ownsRow nw 2 1 (.slice va f vc) f (intsN F)) := (by rw [← e, ← e2]; exact HO.out : wr.ownsRow nw 2 1 (.slice va f vc) f (intsN F))
   clear HO HR
   subst e2
   simp only [nxI]
   go_wp2
   go_ret
   exact ⟨va, vc, rfl, HOE.out, HB.out⟩
  | some y =>
   obtain ⟨c, hd, hap⟩ : ∃ c, d y = some c ∧ l ++ chR S.n1 g d c.c.toNat y = F := HR.out
   obtain ⟨hlt, hnext⟩ := RfR.step HBS.out.lc hd hap
   rw [Hl.out, Hf.out] at hlt
   have HN : Hid (RfR S.n1 g d F (l ++ [y]) (nxR S.n1 g d y)) := hnext
   have Hd : Hid (d y = some c) := hd
   have hyn := (HBS.out.lc.bd y c hd).1
   have hB1 : Bel w (wr.alloc (.cells #[.int .i64 (y : Int)] 2)) := bel_alloc HB.out _
   have hownA : (wr.alloc (.cells #[.int .i64 (y : Int)] 2)).ownsRow nw 2 1 (.slice va m vc) m (intsN l) := World.ownsRow.alloc HO.out _
   have hnews : Hid (∀ j u, [Value.int .i64 (y : Int)][j]? = some u → (wr.alloc (.cells #[.int .i64 (y : Int)] 2)).cell? (Addr.add ⟨wr.heap.size, 0, none⟩ j) = some u) := World.news_of_block (cs := #[.int .i64 (y : Int)]) (heap_alloc_new wr _)
   have hnw : nw ≤ wr.heap.size := by rw [← Hnw.out]; exact HB.out.out.size
   have HL2 : Hid ((l ++ [y]).length = m + 1) := (by rw [List.length_append, Hl.out]; rfl : (l ++ [y]).length = m + 1)
   have HI2 : Hid (intsN (l ++ [y]) = intsN l ++ [.int .i64 (y : Int)]) := (by simp [intsN] : intsN (l ++ [y]) = intsN l ++ [.int .i64 (y : Int)])
   have hne1 : ((y : Int) == -1) = false := by rw [beq_eq_false_iff_ne]; omega
   have hne2 : ((y : Int) != -1) = true := by simp only [bne, hne1]; rfl
   have hne3 : ¬ (y : Int) = -1 := by omega
   have HBw : Hid (Bel w (wr.alloc (.cells #[.int .i64 (y : Int)] 2))) := hB1
   have mb : m ≤ 8001 := by omega
   clear hd hap hnext HR hB1
   simp only [nxI]
   go_wp2_with (first
    | (at_builtin; refine wpList_append_lies _ rfl _ _ 27 rfl nw 2 i0 (.int .i64 0) 1 8 Tryz.underlying27 hi0 hz0 hz1 hz2 rfl (by decide) _ _ _ rfl hownA ⟨wr.heap.size, 0, none⟩ 1 1 [.int .i64 (y : Int)] rfl rfl hnews.out (by simp [Value.oneCell']) (by decide) (by unfold maxLen; omega) (by omega) (by simp; omega) (wr.heap.size + 1) (by simp) ?_)
    | go_in)
   intro g2 cap2 w2 hown2 hgrow hat _
   have hB2 : Bel w w2 := bel_grow HBw.out hgrow (fun j e => by rw [Hnw.out]; exact (hownA.lt j e).1)
   have HO2 : Hid (w2.ownsRow nw 2 1 (.slice (some ⟨g2, 0, none⟩) (m + 1) cap2) (m + 1) (intsN (l ++ [y]))) := (by rw [HI2.out]; exact hown2 : w2.ownsRow nw 2 1 (.slice (some ⟨g2, 0, none⟩) (m + 1) cap2) (m + 1) (intsN (l ++ [y])))
   have HB2 : Hid (Bel w w2) := hB2
   have cB := behind_any base P S g lo bl d t y c w2 (HBS.out.bel hB2) hyn Hd.out
   obtain ⟨on, Hon⟩ : ∃ o, Hid (nxR S.n1 g d y = o) := ⟨_, (rfl : nxR S.n1 g d y = _)⟩
   rw [Hon.out] at cB HN
   clear hown2 hgrow hat hownA hB2
   go_wp2_with fail
   refine cB.mono ?_
   rintro e w3 ⟨rfl, hb3⟩
   have HO3 : Hid (w3.ownsRow nw 2 1 (.slice (some ⟨g2, 0, none⟩) (m + 1) cap2) (m + 1) (intsN (l ++ [y]))) := own_bel HO2.out hb3
   have HB3 : Hid (Bel w w3) := bel_step HB2.out hb3
   clear cB hb3 HO2 HB2
   go_wp2
   go_roundw
   case rel => exact ⟨l ++ [y], on, m + 1, _, cap2, rfl, rfl, by omega, HL2, HO3, HN, HB3⟩
   case measure => simp [slLen]; omega

set_option maxRecDepth 100000 in
set_option maxHeartbeats 4000000 in
theorem path_any (a0 : Option Addr) (n0 c0 : Nat) (a1 : Option Addr) (n1 c1 : Nat) (a2 : Option Addr) (n2 c2 Bb Be M Wd : Nat) (g : GraphD) (b1 : List Nat) (l : List Nat) (va : Option Addr) (m vc lo : Nat) (time : Int) (w : World) (hg : graphP g) (e1 : g.roads.length = n1) (t1 : RoadL w a1 g.roads b1)
  (hO : w.ownsRow lo 2 1 (.slice va m vc) m (intsN l)) (hm : l.length = m) (hl : ∀ x ∈ l, x < n1) (mb : m ≤ 8001) :
  Calls Tryz.prog 71 #[.agg #[.slice a0 n0 c0, .slice a1 n1 c1, .slice a2 n2 c2, .slice (some ⟨Bb, 0, none⟩) n0 n0, .slice (some ⟨Be, 0, none⟩) n0 n0, .map (some M), .slice (some ⟨Wd, 0, none⟩) n1 n1], .slice va m vc, .int .i64 time] w fun e w' => e = .returned (.agg #[.bool true, .slice va m vc, .int .i64 time, .int .i64 (lnS g l)]) ∧ Bel w w' := by
 have H1 : Hid (g.roads.length = n1) := e1
 have Hm : Hid (l.length = m) := hm
 have m1 : n1 ≤ 8000 := by rw [← e1]; exact hg.1.2.1
 obtain ⟨W, HW⟩ : ∃ W, Hid (W = w.alloc (.cells #[.slice a0 n0 c0, .slice a1 n1 c1, .slice a2 n2 c2, .slice (some ⟨Bb, 0, none⟩) n0 n0, .slice (some ⟨Be, 0, none⟩) n0 n0, .map (some M), .slice (some ⟨Wd, 0, none⟩) n1 n1] 111)) := ⟨_, (rfl : w.alloc (.cells #[.slice a0 n0 c0, .slice a1 n1 c1, .slice a2 n2 c2, .slice (some ⟨Bb, 0, none⟩) n0 n0, .slice (some ⟨Be, 0, none⟩) n0 n0, .map (some M), .slice (some ⟨Wd, 0, none⟩) n1 n1] 111) = _)⟩
 have hBW : Bel w W := by rw [HW.out]; exact bel_alloc (Bel.refl _) _
 have XW : Blk W w.heap.size [.slice a0 n0 c0, .slice a1 n1 c1, .slice a2 n2 c2, .slice (some ⟨Bb, 0, none⟩) n0 n0, .slice (some ⟨Be, 0, none⟩) n0 n0, .map (some M), .slice (some ⟨Wd, 0, none⟩) n1 n1] := by rw [HW.out]; exact Blk.new w [.slice a0 n0 c0, .slice a1 n1 c1, .slice a2 n2 c2, .slice (some ⟨Bb, 0, none⟩) n0 n0, .slice (some ⟨Be, 0, none⟩) n0 n0, .map (some M), .slice (some ⟨Wd, 0, none⟩) n1 n1] _
 obtain ⟨nw, Hnw⟩ : ∃ n, Hid (w.heap.size = n) := ⟨_, (rfl : w.heap.size = _)⟩
 have HWs : Hid (W.heap.size = nw + 1) := (by rw [HW.out, ← Hnw.out]; simp : W.heap.size = nw + 1)
 rw [Hnw.out] at XW
 obtain ⟨w1, Hw1⟩ : ∃ X, Hid (X = (W.alloc (.cells #[.bool false, .slice none 0 0, .int .i64 0, .int .i64 0] 30)).alloc (.cells #[.bool true, .slice va m vc, .int .i64 time, .int .i64 0] 30)) := ⟨_, (rfl : (W.alloc (.cells #[.bool false, .slice none 0 0, .int .i64 0, .int .i64 0] 30)).alloc (.cells #[.bool true, .slice va m vc, .int .i64 time, .int .i64 0] 30) = _)⟩
 have hB1 : Bel W w1 := by rw [Hw1.out]; exact bel_alloc (bel_alloc (Bel.refl _) _) _
 have HXR : Hid (Blk w1 (nw + 1) [.bool false, .slice none 0 0, .int .i64 0, .int .i64 0]) := (by rw [Hw1.out, ← HWs.out]; exact (Blk.new W [.bool false, .slice none 0 0, .int .i64 0, .int .i64 0] _).bel (bel_alloc (Bel.refl _) _) : Blk w1 (nw + 1) [.bool false, .slice none 0 0, .int .i64 0, .int .i64 0])
 have HXP : Hid (Blk w1 (nw + 1 + 1) [.bool true, .slice va m vc, .int .i64 time, .int .i64 (lnS g (l.take 0))]) := (by rw [Hw1.out, ← HWs.out]; exact Blk.new1 W _ [.bool true, .slice va m vc, .int .i64 time, .int .i64 0] _ : Blk w1 (nw + 1 + 1) [.bool true, .slice va m vc, .int .i64 time, .int .i64 (lnS g (l.take 0))])
 have HXW : Hid (Blk w1 nw [.slice a0 n0 c0, .slice a1 n1 c1, .slice a2 n2 c2, .slice (some ⟨Bb, 0, none⟩) n0 n0, .slice (some ⟨Be, 0, none⟩) n0 n0, .map (some M), .slice (some ⟨Wd, 0, none⟩) n1 n1]) := XW.bel hB1
 have HB1 : Hid (Bel w w1) := bel_step hBW hB1
 have HO : Hid (w.ownsRow lo 2 1 (.slice va m vc) m (intsN l)) := hO
 have HT1 : Hid (RoadL w a1 g.roads b1) := t1
 have Hl : Hid (∀ x ∈ l, x < n1) := hl
 have HG : Hid (graphP g) := hg
 obtain ⟨ln, Hln⟩ : ∃ q, Hid (lnS g l = q) := ⟨_, (rfl : lnS g l = _)⟩
 rw [Hln.out]
 clear XW hO t1 hl hg hm e1 hB1 hBW
 go_enter Tryz.func71, Tryz.ntmps71
 go_upto_region 2 with fail
 rw [← HW.out, Hnw.out]
 rw [← Hw1.out]
 go_wp2_with fail
 go_loopw [9, 15] (fun _ i wr => ∃ k : Nat, k ≤ m ∧ i = .int .i64 k ∧ Hid (Blk wr (nw + 1 + 1) [.bool true, .slice va m vc, .int .i64 time, .int .i64 (lnS g (l.take k))]) ∧ Hid (Blk wr (nw + 1) [.bool false, .slice none 0 0, .int .i64 0, .int .i64 0]) ∧ Hid (Blk wr nw [.slice a0 n0 c0, .slice a1 n1 c1, .slice a2 n2 c2, .slice (some ⟨Bb, 0, none⟩) n0 n0, .slice (some ⟨Be, 0, none⟩) n0 n0, .map (some M), .slice (some ⟨Wd, 0, none⟩) n1 n1]) ∧ Hid (Bel w wr)) (fun _ i _ => m - (intOf i).toNat)
 case atStart => exact ⟨0, Nat.zero_le _, rfl, HXP, HXR, HXW, HB1⟩
 case round =>
  clear HXP HXR HXW HB1
  obtain ⟨k, hk, rfl, HXP, HXR, HXW, HB⟩ := hrel
  by_cases hlt : k < m
  ·have hkl : k < l.length := by rw [Hm.out]; exact hlt
   obtain ⟨ga, cap, ev, _, _⟩ := own_in HO.out (by omega)
   simp only [Value.slice.injEq] at ev
   obtain ⟨rfl, _, rfl⟩ := ev
   have hrow := own_bel HO.out HB.out
   have r0 : wr.cell? ⟨ga, k, none⟩ = some (.int .i64 (l[k] : Int)) := by
    rw [hrow.cellAt k (by omega)]
    unfold intsN
    rw [List.getElem?_map, List.getElem?_eq_getElem hkl]
    rfl
   have rl := (World.ownsRow.lt hrow ga rfl).2
   have hxn := Hl.out l[k] (List.getElem_mem _)
   have hLt := lnS_take (g := g) hkl
   have hLb := lnS_bd HG.out (l.take k) (fun x hx => by rw [H1.out]; exact Hl.out x (List.mem_of_mem_take hx))
   rw [List.length_take] at hLb
   obtain ⟨x, Hx⟩ : ∃ y, Hid (l[k] = y) := ⟨_, (rfl : l[k] = _)⟩
   rw [Hx.out] at r0 hxn hLt
   have hxg : x < g.roads.length := by rw [H1.out]; exact hxn
   obtain ⟨b, off, ff, ea, hbl, hrx⟩ := (HT1.out.bel roadE HB.out).out hxg
   obtain ⟨_, _, _, _, _, _, _, _, _, _, _, y4, _⟩ := hrx x hxg
   have hrb := (roadB_out (HG.out.2.2.1 x hxg)).2.2.2.2
   rw [← rdAt_eq hxg] at y4 hrb
   subst ea
   obtain ⟨q, Hq⟩ : ∃ q, Hid ((rdAt g x).len = q) := ⟨_, (rfl : (rdAt g x).len = _)⟩
   rw [Hq.out] at y4 hLt hrb
   obtain ⟨s, Hs⟩ : ∃ q, Hid (lnS g (l.take k) = q) := ⟨_, (rfl : lnS g (l.take k) = _)⟩
   rw [Hs.out] at hLt hLb HXP
   have hkm : min k l.length ≤ 8001 := by omega
   have hsb : 0 ≤ s ∧ s ≤ 8001 * 1000000000 := by omega
   have hw : IntKind.i64.wrap (s + q) = s + q := by rw [IntKind.wrap_i64]; omega
   have HL2 : Hid (lnS g (l.take (k + 1)) = s + q) := hLt
   have hxI : (x : Int) < (n1 : Int) := by omega
   have hkI : (k : Int) < (m : Int) := by omega
   have HS0 : wr.drew.cell? ⟨nw, 1, none⟩ = some (.slice (some ⟨b, off, none⟩) n1 c1) ∧ wr.drew.cell? ⟨b, off + x * 6 + 4, none⟩ = some (.int .i64 q) := ⟨HXW.out.cell 1 (by simp), y4⟩
   have y3 : wr.drew.cell? ⟨nw + 1 + 1, 3, none⟩ = some (.int .i64 s) := HXP.out.cell 3 (by simp)
   have y3f : wr.drew.frozen? ⟨nw + 1 + 1, 3, none⟩ = false := HXP.out.free 3
   have y3l : nw + 1 + 1 < wr.drew.heap.size := HXP.out.lt
   have hbn : b ≠ nw + 1 + 1 := by
    have h1 := HT1.out.lt roadE
    obtain ⟨b', off', ff', ea', hbl', _⟩ := HT1.out.out hxg
    injection ea' with ea'
    injection ea' with e1 e2
    have h2 := hbl'
    rw [Hnw.out, ← e1] at h2
    omega
   have HXP2 : Hid (Blk (wr.drew.setCell ⟨nw + 1 + 1, 3, none⟩ (.int .i64 (s + q))) (nw + 1 + 1) [.bool true, .slice (some ⟨ga, 0, none⟩) m vc, .int .i64 time, .int .i64 (lnS g (l.take (k + 1)))]) := (by
    rw [HL2.out]
    exact (HXP.out.bel (Bel.refl _).drew).set 3 _ (by simp) : Blk (wr.drew.setCell ⟨nw + 1 + 1, 3, none⟩ (.int .i64 (s + q))) (nw + 1 + 1) [.bool true, .slice (some ⟨ga, 0, none⟩) m vc, .int .i64 time, .int .i64 (lnS g (l.take (k + 1)))])
   have HXR2 : Hid (Blk (wr.drew.setCell ⟨nw + 1 + 1, 3, none⟩ (.int .i64 (s + q))) (nw + 1) [.bool false, .slice none 0 0, .int .i64 0, .int .i64 0]) := (HXR.out.bel (Bel.refl _).drew).far (by omega)
   have HXW2 : Hid (Blk (wr.drew.setCell ⟨nw + 1 + 1, 3, none⟩ (.int .i64 (s + q))) nw [.slice a0 n0 c0, .slice (some ⟨b, off, none⟩) n1 c1, .slice a2 n2 c2, .slice (some ⟨Bb, 0, none⟩) n0 n0, .slice (some ⟨Be, 0, none⟩) n0 n0, .map (some M), .slice (some ⟨Wd, 0, none⟩) n1 n1]) := (HXW.out.bel (Bel.refl _).drew).far (by omega)
   have HB2 : Hid (Bel w (wr.drew.setCell ⟨nw + 1 + 1, 3, none⟩ (.int .i64 (s + q)))) := bel_set HB.out.drew (by rw [Hnw.out]; show nw ≤ nw + 1 + 1; omega) _
   clear hrow hrx y4 hLt hLb
   go_wp2_with fail
   go_upto_region 5 with fail
   clear r0 rl
   refine wp_region_noPanic ?_
   refine wp_region_held_drew (S := fun w' => w'.cell? ⟨nw, 1, none⟩ = some (.slice (some ⟨b, off, none⟩) n1 c1) ∧ w'.cell? ⟨b, off + x * 6 + 4, none⟩ = some (.int .i64 q)) (by kernel_rfl) HS0 (fun hHeld => ?_)
   clear HS0
   generalize wr.drew = Y at hHeld y3 y3f y3l HXP2 HXR2 HXW2 HB2 ⊢
   refine tk 0 hHeld ?_; refine tk 2 hHeld ?_; refine tk 3 hHeld ?_; refine tk 4 hHeld ?_; refine tk 5 hHeld ?_; refine tk 6 hHeld ?_; refine tk 7 hHeld ?_; refine tk 8 hHeld ?_; refine tk 9 hHeld ?_
   refine rd1 1 (fun K hK => ?_)
   go_simp
   refine hK.out _ _ hHeld ?_; clear hK K hHeld; intro hHeld
   try simp only [Act.put, List.setIfInBounds_toArray, List.set_cons_zero, List.set_cons_succ]
   refine tk 10 hHeld ?_; refine tk 11 hHeld ?_
   refine rd1 12 (fun K hK => ?_)
   go_simp
   refine hK.out _ _ ⟨by rw [World.cell?_setCell_other _ _ _ _ (fun e => by have h : nw + 1 + 1 = nw := congrArg Addr.block e; omega)]; exact hHeld.1, by rw [World.cell?_setCell_other _ _ _ _ (fun e => hbn (congrArg Addr.block e).symm)]; exact hHeld.2⟩ ?_; clear hK K hHeld; intro hHeld
   try simp only [Act.put, List.setIfInBounds_toArray, List.set_cons_zero, List.set_cons_succ]
   refine wpAnyH_done (by kernel_rfl) ?_ _
   refine NoPanic.normal ?_
   clear hHeld
   go_wp2
   go_roundw
   case rel => exact ⟨k + 1, by omega, by go_num, HXP2, HXR2, HXW2, HB2⟩
   case measure => simp [intOf]; omega
  ·have e : l.take k = l := List.take_of_length_le (by rw [Hm.out]; omega)
   rw [e, Hln.out] at HXP
   have hge : ¬ (k : Int) < (m : Int) := by omega
   have q0 : wr.cell? ⟨nw + 1 + 1, 0, none⟩ = some (.bool true) := HXP.out.cell 0 (by simp)
   have q1 : wr.cell? ⟨nw + 1 + 1, 1, none⟩ = some (.slice va m vc) := HXP.out.cell 1 (by simp)
   have q2 : wr.cell? ⟨nw + 1 + 1, 2, none⟩ = some (.int .i64 time) := HXP.out.cell 2 (by simp)
   have q3 : wr.cell? ⟨nw + 1 + 1, 3, none⟩ = some (.int .i64 ln) := HXP.out.cell 3 (by simp)
   have u0 : wr.cell? ⟨nw + 1, 0, none⟩ = some (.bool false) := HXR.out.cell 0 (by simp)
   have u1 : wr.cell? ⟨nw + 1, 1, none⟩ = some (.slice none 0 0) := HXR.out.cell 1 (by simp)
   have u2 : wr.cell? ⟨nw + 1, 2, none⟩ = some (.int .i64 0) := HXR.out.cell 2 (by simp)
   have u3 : wr.cell? ⟨nw + 1, 3, none⟩ = some (.int .i64 0) := HXR.out.cell 3 (by simp)
   have f0 := HXR.out.free 0
   have f1 := HXR.out.free 1
   have f2 := HXR.out.free 2
   have f3 := HXR.out.free 3
   have ql := HXP.out.lt
   have ul := HXR.out.lt
   have XE : Blk ((((wr.setCell ⟨nw + 1, 0, none⟩ (.bool true)).setCell ⟨nw + 1, 1, none⟩ (.slice va m vc)).setCell ⟨nw + 1, 2, none⟩ (.int .i64 time)).setCell ⟨nw + 1, 3, none⟩ (.int .i64 ln)) (nw + 1) [.bool true, .slice va m vc, .int .i64 time, .int .i64 ln] := (((HXR.out.set 0 _ (by simp)).set 1 _ (by simp)).set 2 _ (by simp)).set 3 _ (by simp)
   have r0 := XE.cell 0 (by simp)
   have r1 := XE.cell 1 (by simp)
   have r2 := XE.cell 2 (by simp)
   have r3 := XE.cell 3 (by simp)
   simp only [List.getElem_cons_zero, List.getElem_cons_succ] at r0 r1 r2 r3
   have hle : w.heap.size ≤ nw + 1 := by rw [Hnw.out]; omega
   have HBE : Hid (Bel w ((((wr.setCell ⟨nw + 1, 0, none⟩ (.bool true)).setCell ⟨nw + 1, 1, none⟩ (.slice va m vc)).setCell ⟨nw + 1, 2, none⟩ (.int .i64 time)).setCell ⟨nw + 1, 3, none⟩ (.int .i64 ln))) := bel_set (bel_set (bel_set (bel_set HB.out hle _) hle _) hle _) hle _
   obtain ⟨X, HX⟩ : ∃ X, Hid (X = (((wr.setCell ⟨nw + 1, 0, none⟩ (.bool true)).setCell ⟨nw + 1, 1, none⟩ (.slice va m vc)).setCell ⟨nw + 1, 2, none⟩ (.int .i64 time)).setCell ⟨nw + 1, 3, none⟩ (.int .i64 ln)) := ⟨_, (rfl : (((wr.setCell ⟨nw + 1, 0, none⟩ (.bool true)).setCell ⟨nw + 1, 1, none⟩ (.slice va m vc)).setCell ⟨nw + 1, 2, none⟩ (.int .i64 time)).setCell ⟨nw + 1, 3, none⟩ (.int .i64 ln) = _)⟩
   rw [← HX.out] at r0 r1 r2 r3 HBE
   clear XE HXP HXR HXW
   go_wp2
   rw [← HX.out]
   exact bodyPost_ret (v := .agg #[.bool true, .slice va m vc, .int .i64 time, .int .i64 ln]) (by simp [results, Tryz.results71, go_sem, r0, r1, r2, r3]) rfl ⟨rfl, HBE.out⟩
end Go.Proofs.YtakedciemnkfhaaGreatDoor
