/-
  A graph's network, in the program: contract.
-/
import Derived.Test.YtiagdabikbjbiaaXA
import Derived.Test.YtiagdabikbjbiaaGphC
import Derived.Test.YtiagdabikbjbiaaXD
import Derived.BigQuiet
import Derived.Deep.DeepCutAuto
import Derived.Deep.AppendLies
import Derived.Test.YtiagdabikbjbiaaBanX
import Derived.Deep.RegionLaw
namespace Go.Proofs.Ytiagdabikbjbiaa
open Go.RowKit Go.Maps

theorem infoSlX : (Try.prog.info? 48).map (fun i => (i.zero, i.size, i.bytes)) = some (some (.slice none 0 0), 1, 24) := by kernel_rfl
theorem infoI64X : (Try.prog.info? 2).map (fun i => (i.zero, i.size, i.bytes)) = some (some (.int .i64 0), 1, 8) := by kernel_rfl
theorem fold_cap : ∀ (l acc : List BanD), acc.length + l.length ≤ 2001 → SrtB acc → SrtB (l.foldl capB acc) ∧ ∀ y, y ∈ l.foldl capB acc ↔ y ∈ l ∨ y ∈ acc
  | [], acc, _, hs => ⟨hs, fun y => by simp⟩
  | b :: l, acc, hl, hs => by
    simp only [List.length_cons] at hl
    have e : capB acc b = addB acc b := capB_yes (by omega)
    have hk := addB_len acc b
    obtain ⟨h1, h2⟩ := fold_cap l (addB acc b) (by omega) (addB_srt acc b hs)
    rw [List.foldl_cons, e]
    refine ⟨h1, fun y => ?_⟩
    rw [h2, addB_mem, List.mem_cons]
    constructor
    · rintro (h | h | h)
      · exact .inl (.inr h)
      · exact .inl (.inl h)
      · exact .inr h
    · rintro ((h | h) | h)
      · exact .inr (.inl h)
      · exact .inl h
      · exact .inr (.inr h)
theorem fold_self {l : List BanD} (hl : l.length ≤ 2000) (hs : SrtB l) : l.foldl capB [] = l := by
  obtain ⟨h1, h2⟩ := fold_cap l [] (by simp; omega) (fun i j hi => by simp at hi)
  exact srt_eq _ _ h1 hs fun y => by rw [h2]; simp
theorem bans_srt {rs : List RoadD} {l : List BanD} (h : bansP rs l) : SrtB l := by
  have key : ∀ d i (hj : i + d + 1 < l.length), banLt (l[i]'(by omega)) l[i + d + 1] := by
    intro d
    induction d with
    | zero => intro i hj; exact (h (i + 1) hj).2 (Nat.succ_pos _)
    | succ d ih =>
      intro i hj
      exact banLt_tr (ih i (by omega)) ((h (i + d + 1 + 1) hj).2 (Nat.succ_pos _))
  intro i j hi hj hij
  obtain ⟨d, rfl⟩ : ∃ d, j = i + d + 1 := ⟨j - i - 1, by omega⟩
  exact key d i hj
theorem frx_bx {X : Nat → Prop} {a b : World} {M : Nat} {l : List BanD} (h : Frx X a b) (k : BX a M l) (hx : X M) : BX b M l := by
  obtain ⟨D, ⟨es, clock, h1, h2⟩, h3⟩ := k
  exact ⟨D, ⟨es, clock, by rw [h.block M (by have := World.ownsMap.lt (⟨es, clock, h1, h2⟩ : a.ownsMap Try.prog 75 unitElem M l.length D); exact this) hx]; exact h1, h2⟩, h3⟩
/-- What networkOf tells. -/
structure NetOutX (w : World) (s0 s1 s2 : Value) (g : GraphD) (e : Ending) (w' : World) : Prop where
  out : ∃ lo Bb Be M V, e = .returned (.tuple #[.agg #[s0, s1, s2, .slice (some ⟨Bb, 0, none⟩) g.places.length g.places.length, .slice (some ⟨Be, 0, none⟩) g.places.length g.places.length, .map (some M)], .bool true]) ∧
    Tabs lo w' (fun t => cond t Bb Be) g.places.length V (bgF g.roads g.roads.length) ∧ BX w' M g.bans ∧ M < lo ∧ M ≠ Bb ∧ M ≠ Be ∧ (w.heap.size ≤ M ∧ w.heap.size ≤ Bb ∧ w.heap.size ≤ Be) ∧ Bel w w'

theorem Hid_mkX {p : Prop} (h : p) : Hid p := h
theorem bgF_twoX {rs : List RoadD} {k p q : Nat} (hk : k < rs.length) (h1 : rs[k].fr = p) (h2 : rs[k].to = q) :
    (fun t' p' => if t' = false ∧ p' = q then (fun t' p' => if t' = true ∧ p' = p then bgF rs k true p ++ [k] else bgF rs k t' p') false q ++ [k] else (fun t' p' => if t' = true ∧ p' = p then bgF rs k true p ++ [k] else bgF rs k t' p') t' p') = bgF rs (k + 1) := by
  funext t' p'
  rw [bgF_succ hk]
  cases t'
  · simp only [endR, h2]
    by_cases hq' : p' = q
    · subst hq'; simp
    · have : ¬ (q : Int) = p' := by omega
      simp [hq', this]
  · simp only [endR, h1]
    by_cases hp' : p' = p
    · subst hp'; simp
    · have : ¬ (p : Int) = p' := by omega
      simp [hp', this]
structure CutTb (lo n Bb Be R : Nat) (F : Bool → Nat → List Nat) (w wy : World) : Prop where
  out : ∃ V, Tabs lo wy (fun t => cond t Bb Be) n V F ∧ Frx (fun x => x ≠ Bb ∧ x ≠ Be ∧ (x < lo ∨ x = R)) w wy ∧ ∀ t p, p < n → some R ≠ (V t p).ownBlock

set_option maxRecDepth 100000 in
set_option maxHeartbeats 4000000 in
theorem networkOf_yesX (a0 : Option Addr) (n0 c0 : Nat) (a1 : Option Addr) (n1 c1 : Nat) (a2 : Option Addr) (n2 c2 : Nat) (g : GraphD) (b0 b1 b2 : List Nat) (w : World) (t0 : SpotL w a0 g.places b0) (t1 : RoadL w a1 g.roads b1) (t2 : BanL w a2 g.bans b2) (e0 : g.places.length = n0) (e1 : g.roads.length = n1) (e2 : g.bans.length = n2) (hP : graphP g) :
    Calls Try.prog 30 #[gphV a0 n0 c0 a1 n1 c1 a2 n2 c2] w fun e w' => NetOutX w (.slice a0 n0 c0) (.slice a1 n1 c1) (.slice a2 n2 c2) g e w' := by
  have H0 : Hid (g.places.length = n0) := e0
  have H1 : Hid (g.roads.length = n1) := e1
  have H2 : Hid (g.bans.length = n2) := e2
  have HP : Hid (graphP g) := hP
  have HFC : Hid (g.bans.foldl capB [] = g.bans) := fold_self hP.1.2.2 (bans_srt hP.2.2.2)
  have m0 : n0 ≤ 5000 := by rw [← e0]; exact hP.1.1
  have m1 : n1 ≤ 8000 := by rw [← e1]; exact hP.1.2.1
  have m2 : n2 ≤ 2000 := by rw [← e2]; exact hP.1.2.2
  clear hP
  have hmk : ∀ w : World, (Instr.makeSlice 27 (.int .i64 n0) (.int .i64 n0)).run Try.prog w = .ok (.slice (some ⟨w.heap.size, 0, none⟩) n0 n0) (w.alloc (.cells (madeCells #[.slice none 0 0] n0) 48)) := fun w => by
    obtain ⟨i0, hi, hz0, hz1, hz2⟩ := info_parts infoSlX
    have := run_make (P := Try.prog) w 27 48 i0 (.slice none 0 0) Try.underlying27 hi hz0 .i64 .i64 n0 n0 (by omega) (by omega) (by rw [hz2]; omega) (by omega)
    rw [hz1, Nat.mul_one] at this
    exact this
  have hmm := @run_makeMap Try.prog
  obtain ⟨i0, hi0, hz0, hz1, hz2⟩ := info_parts infoI64X
  obtain ⟨W, HW⟩ : ∃ W, Hid (W = (w.alloc (.cells #[.slice a0 n0 c0, .slice a1 n1 c1, .slice a2 n2 c2] 34)).alloc (.cells #[.slice none 0 0, .slice none 0 0, .slice none 0 0, .slice none 0 0, .slice none 0 0, .map none] 59)) := ⟨_, (rfl : (w.alloc (.cells #[.slice a0 n0 c0, .slice a1 n1 c1, .slice a2 n2 c2] 34)).alloc (.cells #[.slice none 0 0, .slice none 0 0, .slice none 0 0, .slice none 0 0, .slice none 0 0, .map none] 59) = _)⟩
  have hBW : Bel w W := by rw [HW.out]; exact bel_alloc (bel_alloc (Bel.refl _) _) _
  have XG : Blk W w.heap.size [.slice a0 n0 c0, .slice a1 n1 c1, .slice a2 n2 c2] := by rw [HW.out]; exact (Blk.new w [.slice a0 n0 c0, .slice a1 n1 c1, .slice a2 n2 c2] _).bel (bel_alloc (Bel.refl _) _)
  have XZ : Blk W (w.heap.size + 1) [.slice none 0 0, .slice none 0 0, .slice none 0 0, .slice none 0 0, .slice none 0 0, .map none] := by rw [HW.out]; exact Blk.new1 w _ [.slice none 0 0, .slice none 0 0, .slice none 0 0, .slice none 0 0, .slice none 0 0, .map none] _
  have hGV : GphV W (gphV a0 n0 c0 a1 n1 c1 a2 n2 c2) g (b0 ++ (b1 ++ b2)) := ⟨a0, c0, a1, c1, a2, c2, b0, b1, b2, rfl, by rw [e0, e1, e2], t0.bel spotE hBW, t1.bel roadE hBW, t2.bel banE hBW⟩
  have HB : Hid (bP (graphP g) = true) := bP_true HP.out
  clear e0 e1 e2 t0
  go_enter Try.func30, Try.ntmps30
  go_wp2_with fail
  rw [← HW.out]
  refine (graphOk_any _ g _ _ hGV ⟨by rw [H0.out]; omega, by rw [H1.out]; omega, by rw [H2.out]; omega⟩).mono ?_
  rintro e w1 ⟨rfl, hb1⟩
  rw [HB.out]
  have XG1 := XG.bel hb1
  have x0 : w1.cell? ⟨w.heap.size, 0, none⟩ = some (.slice a0 n0 c0) := XG1.cell 0 (by simp)
  have x1 : w1.cell? ⟨w.heap.size, 1, none⟩ = some (.slice a1 n1 c1) := XG1.cell 1 (by simp)
  have x2 : w1.cell? ⟨w.heap.size, 2, none⟩ = some (.slice a2 n2 c2) := XG1.cell 2 (by simp)
  have xl : w.heap.size < w1.heap.size := XG1.lt
  have xl1 : w.heap.size < w1.heap.size + 1 := by omega
  have xl2 : w.heap.size < w1.heap.size + 1 + 1 := by omega
  have xl3 : w.heap.size < w1.heap.size + 1 + 1 + 1 := by omega
  have xl4 : w.heap.size < w1.heap.size + 1 + 1 + 1 + 1 := by omega
  go_upto_region 3 with fail
  go_cut [4] (fun a wx => CutN w1 (.slice a0 n0 c0) (.slice a1 n1 c1) (.slice a2 n2 c2) n0 a wx)
  case first =>
    go_big_region
    all_goals
      go_wp2_with fail
      go_meet
      exact ⟨⟨_, _, _, _, rfl, (by first | exact four0 _ _ _ _ _ | exact four1 _ _ _ _ _ | exact four2 _ _ _ _ _ | exact four3 _ _ _ _ _), (by first | exact four0 _ _ _ _ _ | exact four1 _ _ _ _ _ | exact four2 _ _ _ _ _ | exact four3 _ _ _ _ _), (by first | exact four0 _ _ _ _ _ | exact four1 _ _ _ _ _ | exact four2 _ _ _ _ _ | exact four3 _ _ _ _ _), (by first | exact four0 _ _ _ _ _ | exact four1 _ _ _ _ _ | exact four2 _ _ _ _ _ | exact four3 _ _ _ _ _), fourB _ _ _ _ _, fourS _ _ _ _ _, ⟨by omega, by omega, by omega, by omega⟩, by omega, by omega, by omega, by omega, by omega, by omega⟩⟩
  case rest =>
  obtain ⟨N, Bb, Be, M, rfl, q1, q2, q3, q4, hbc, hsz, ⟨o1, o2, o3, o4⟩, d1, d2, d3, d4, d5, d6⟩ := hcut.out
  obtain ⟨wx, rfl⟩ : ∃ V, V = wc := ⟨_, rfl⟩
  obtain ⟨lo, Hlo⟩ : ∃ lo, Hid (wx.heap.size = lo) := ⟨_, (rfl : wx.heap.size = _)⟩
  have XNx : Blk wx N [.slice a0 n0 c0, .slice a1 n1 c1, .slice a2 n2 c2, .slice (some ⟨Bb, 0, none⟩) n0 n0, .slice (some ⟨Be, 0, none⟩) n0 n0, .map (some M)] := blk_of (vs := [.slice a0 n0 c0, .slice a1 n1 c1, .slice a2 n2 c2, .slice (some ⟨Bb, 0, none⟩) n0 n0, .slice (some ⟨Be, 0, none⟩) n0 n0, .map (some M)]) q1
  have XGx := XG1.bel hbc
  have XZx := (XZ.bel hb1).bel hbc
  have hBx := bel_step hBW (bel_step hb1 hbc)
  have z0 : Bb < wx.heap.size := (Array.getElem?_eq_some_iff.1 q2).1
  have z1 : Be < wx.heap.size := (Array.getElem?_eq_some_iff.1 q3).1
  have z2 : M < wx.heap.size := (Array.getElem?_eq_some_iff.1 q4).1
  have z3 := XNx.lt
  have hSM := BX.of q4
  have w1s : w.heap.size + 2 ≤ w1.heap.size := by
    have h1 := hb1.out.size
    have h2 : W.heap.size = w.heap.size + 2 := by rw [HW.out]; simp
    omega
  have hTx := Tabs.new (lo := lo) (n := n0) q2 q3 d4 (by rw [← Hlo.out]; exact z0) (by rw [← Hlo.out]; exact z1) (by rw [← Hlo.out]; exact Nat.le_refl _) g.roads
  have hlo : lo = w1.heap.size + 4 := by rw [← Hlo.out]; exact hsz
  have HLO : Hid (lo = w1.heap.size + 4) := hlo
  have y1 : wx.cell? ⟨w.heap.size, 1, none⟩ = some (.slice a1 n1 c1) := XGx.cell 1 (by simp)
  have yl := XGx.lt
  have zb : Bb < lo := by rw [← Hlo.out]; exact z0
  have ze : Be < lo := by rw [← Hlo.out]; exact z1
  have zm : M < lo := by rw [← Hlo.out]; exact z2
  have zn : N < lo := by rw [← Hlo.out]; exact z3
  have hR1 := t1.bel roadE hBx
  have hR2 := t2.bel banE hBx
  have hbs1 := t1.lt roadE
  have hbs2 := t2.lt banE
  clear q1 q2 q3 q4 hcut hsz hlo x0 x1 x2 xl xl1 xl2 xl3 xl4 XG XG1 XZ hGV hmk hmm z0 z1 z2 z3 t1 t2
  go_wp2
  go_loopw [5, 6, 25] (fun _ _ i wr => ∃ (k : Nat) (V : Bool → Nat → Value), k ≤ n1 ∧ i = .int .i64 k ∧ Tabs lo wr (fun t => cond t Bb Be) n0 V (bgF g.roads k) ∧ Frx (fun x => x ≠ Bb ∧ x ≠ Be) wx wr) (fun _ _ i _ => n1 - (intOf i).toNat)
  case atStart => exact ⟨0, _, Nat.zero_le _, rfl, hTx, Frx.refl _ _⟩
  case round =>
    obtain ⟨k, V, hk, rfl, hT, hF⟩ := hrel
    clear y1 yl hTx
    have XN := hF.blk XNx ⟨d1, d2⟩
    by_cases hlt : k < n1
    · have hkl : k < g.roads.length := by rw [H1.out]; exact hlt
      obtain ⟨b, off, f, rfl, hb, hx⟩ := (hF.sl roadE hR1 (fun x hx => ⟨by have := hbs1 x hx; omega, by have := hbs1 x hx; omega⟩)).out hkl
      obtain ⟨_, i0', i1, i2, i3, i4, i5, r0, r1, r2, r3, r4, r5⟩ := hx k hkl
      obtain ⟨d, Hd⟩ : ∃ d, Hid (d = g.roads[k]) := ⟨_, (rfl : g.roads[k] = _)⟩
      rw [← Hd.out] at r0 r1 r2 r3 r4 r5
      have hro := roadB_out (HP.out.2.2.1 k hkl)
      rw [H0.out, ← Hd.out] at hro
      obtain ⟨p, hpn, ep⟩ := inN_nat (n := n0) (x := d.fr) (inN_iff.2 hro.1)
      obtain ⟨q, hqn, eq⟩ := inN_nat (n := n0) (x := d.to) (inN_iff.2 hro.2.1)
      rw [ep] at r0
      rw [eq] at r1
      obtain ⟨V1, HV1⟩ : ∃ V, Hid (V = wr.alloc (.cells #[.int .i64 (p : Int), .int .i64 (q : Int), .int .i64 d.way, .int .i64 d.time, .int .i64 d.len, .string d.name] 72)) := ⟨_, (rfl : wr.alloc (.cells #[.int .i64 (p : Int), .int .i64 (q : Int), .int .i64 d.way, .int .i64 d.time, .int .i64 d.len, .string d.name] 72) = _)⟩
      have hbV : Bel wr V1 := by rw [HV1.out]; exact bel_alloc (Bel.refl _) _
      have XR : Blk V1 wr.heap.size [.int .i64 (p : Int), .int .i64 (q : Int), .int .i64 d.way, .int .i64 d.time, .int .i64 d.len, .string d.name] := by rw [HV1.out]; exact Blk.new wr [.int .i64 (p : Int), .int .i64 (q : Int), .int .i64 d.way, .int .i64 d.time, .int .i64 d.len, .string d.name] _
      have hT1 := hT.bel hbV
      have XN1 := XN.bel hbV
      have XR1 := XR
      have hFl1 : ∀ t p, (bgF g.roads k t p).length ≤ 8000 := fun t p => Nat.le_trans (bgF_len _ _ _ _) (by omega)
      have hrow : ∀ t p, p < n0 → some wr.heap.size ≠ (V t p).ownBlock := fun t p hp e => by have := ((hT.rows t p hp).lt _ e.symm).2; omega
      have hwl : lo ≤ wr.heap.size := hT.sz
      have hF1 := hF.trans (Frx.bel hbV)
      have HF1 : Hid (Frx (fun x => x ≠ Bb ∧ x ≠ Be) wx V1) := hF1
      have HEP : Hid (d.fr = p ∧ d.to = q) := ⟨ep, eq⟩
      have hpI : (p : Int) < (n0 : Int) := by omega
      have hqI : (q : Int) < (n0 : Int) := by omega
      have hltI : (k : Int) < (n1 : Int) := by omega
      have hkI : (k : Int) ≤ 8000 := by omega
      clear hx i0' i1 i2 i3 i4 i5 XR XN hT hF hF1 ep eq hro
      go_upto_region 7 with fail
      rw [← HV1.out]
      clear r0 r1 r2 r3 r4 r5 hb
      obtain ⟨F1, HFe⟩ : ∃ F, Hid (F = bgF g.roads k) := ⟨_, (rfl : bgF g.roads k = _)⟩
      rw [← HFe.out] at hT1 hFl1
      obtain ⟨Va, HVa⟩ : ∃ X, Hid (X = V) := ⟨_, (rfl : V = _)⟩
      rw [← HVa.out] at hT1 hrow
      have hrowa := hrow
      have hFla := hFl1
      have hSa : ∀ w', Frx (fun x => x = N ∨ x = wr.heap.size) V1 w' → w'.cell? ⟨N, 3, none⟩ = some (.slice (some ⟨Bb, 0, none⟩) n0 n0) ∧ w'.cell? ⟨wr.heap.size, 0, none⟩ = some (.int .i64 (p : Int)) := fun w' h =>
        ⟨(h.blk XN1 (.inl rfl)).cell 3 (by simp), (h.blk XR1 (.inr rfl)).cell 0 (by simp)⟩
      have hlRa : wr.heap.size < V1.heap.size := XR1.lt
      have HbDa : Bel V1 V1.drew := (Bel.refl V1).drew
      have hTda := hT1.bel HbDa
      have g3a : V1.drew.cell? ⟨Bb, p, none⟩ = some (Va true p) := hTda.cell true p hpn
      have l3a : Bb < V1.drew.heap.size := by have := hTda.sz; omega
      obtain ⟨Fa, HFa⟩ : ∃ F, Hid (F = F1) := ⟨_, (rfl : F1 = _)⟩
      rw [← HFa.out] at hTda hFla
      go_cut [] (fun wy => CutTb lo n0 Bb Be wr.heap.size (fun t' p' => if t' = true ∧ p' = p then Fa true p ++ [k] else Fa t' p') V1 wy)
      case first =>
        refine wp_region_noPanic ?_
        refine wp_region_held_drew (S := (fun w' => Frx (fun x => x = N ∨ x = wr.heap.size) V1 w')) (by kernel_rfl) (Frx.bel (Bel.refl _).drew) (fun hHeld => ?_)
        generalize V1.drew = wD at hHeld hTda g3a l3a HbDa ⊢
        have HbD : Hid (Bel V1 wD) := HbDa
        have hTba := hTda.bel (bel_alloc (Bel.refl wD) (.cells #[.int .i64 (k : Int)] 2))
        have howna := hTba.rows true p hpn
        have HCa : Hid (∀ wB, (wD.alloc (.cells #[.int .i64 (k : Int)] 2)).grownBy wB (Va true p).ownBlock → wB.cell? ⟨Bb, p, none⟩ = some (Va true p) ∧ wB.frozen? ⟨Bb, p, none⟩ = false ∧ Bb < wB.heap.size) := fun wB hg => by
          have hs : wB.heap[Bb]? = (wD.alloc (.cells #[.int .i64 (k : Int)] 2)).heap[Bb]? := hg.block Bb (by have := hTba.sz; omega) (hTba.row_ne hpn Bb (by omega))
          exact ⟨by rw [World.cell?_of_block (a := ⟨Bb, p, none⟩) hs]; exact hTba.cell true p hpn, by rw [World.frozen?_of_block (a := ⟨Bb, p, none⟩) hs]; exact hTba.free true p, Nat.lt_of_lt_of_le (by have := hTba.sz; omega) hg.size⟩
        have HXa : Hid (∀ x, (Va true p).ownBlock = some x → (x = N ∨ x = wr.heap.size) → False) := fun x hx hX => by
          rcases hX with h | h
          · subst h; exact hTda.row_ne hpn x zn hx.symm
          · subst h; exact hrowa true p hpn hx.symm
        have HYa : Hid (∀ x, (x < lo ∨ x = wr.heap.size) → (x < lo ∨ some x ≠ (Va true p).ownBlock)) := fun x hx => hx.imp id (fun h e => by subst h; exact hrowa true p hpn e)
        have HlRa : Hid (wr.heap.size < wD.heap.size) := Nat.lt_of_lt_of_le hlRa HbDa.out.size
        have hlDa : lo ≤ wD.heap.size := hTda.sz
        have hlena := hFla true p
        obtain ⟨saa, sca, hva⟩ := own_shape (hTda.rows true p hpn)
        have Hva : Hid (Va true p = .slice saa (Fa true p).length sca) := hva
        have HTa : Hid (Tabs lo wD (fun t => cond t Bb Be) n0 Va Fa) := hTda
        obtain ⟨La, HLa⟩ : ∃ L, Hid (L = Fa true p) := ⟨_, (rfl : Fa true p = _)⟩
        rw [hva] at g3a howna HCa HXa
        rw [← HLa.out] at g3a howna HCa HXa hlena
        clear hva hTda hTba HbDa
        refine tk 0 hHeld ?_; refine tk 1 hHeld ?_; refine tk 2 hHeld ?_; refine tk 3 hHeld ?_; refine tk 4 hHeld ?_; refine tk 5 hHeld ?_
        refine tk 6 hHeld ?_; refine tk 7 hHeld ?_; refine tk 8 hHeld ?_; refine tk 10 hHeld ?_
        refine rd2 9 11 (fun K hK => ?_) (fun K hK => ?_)
        · go_simp
          refine hK.out _ _ (hHeld) (fun hHeld' => ?_)
          clear hK K hHeld
          have hHeld := hHeld'
          clear hHeld'
          try simp only [Act.put, List.setIfInBounds_toArray, List.set_cons_zero, List.set_cons_succ]
          refine rd1 11 (fun K hK => ?_)
          go_simp
          refine hK.out _ _ (hHeld.trans (Frx.bel (bel_alloc (Bel.refl _) _))) (fun hHeld' => ?_)
          clear hK K hHeld
          have hHeld := hHeld'
          clear hHeld'
          try simp only [Act.put, List.setIfInBounds_toArray, List.set_cons_zero, List.set_cons_succ]
          refine rd1 12 (fun K hK => ?_)
          refine step_append_lies _ rfl _ _ _ rfl lo 2 i0 (.int .i64 0) 1 8 Try.underlying48 hi0 hz0 hz1 hz2 rfl (by decide) (.slice saa La.length sca) La.length (intsN La) (by rfl) howna ⟨wD.heap.size, 0, none⟩ 1 1 [.int .i64 (k : Int)] (by rfl) (by rfl) (World.news_of_block (cs := #[.int .i64 (k : Int)]) (t := 2) (fr := (0, 0)) (heap_alloc_new wD _)) (by simp [Value.oneCell']) (by omega) (by unfold maxLen; omega) (by omega) (by simp; omega) (wD.heap.size + 1) (by simp) ?_
          intro gg cap wB hownB hgrow hat _
          obtain ⟨y6, z6, q6⟩ := HCa.out wB hgrow
          refine hK.out _ _ (hHeld.trans (Frx.grow hgrow (fun x hx hX => HXa.out x hx hX))) (fun hHeld' => ?_)
          clear hK K hHeld
          have hHeld := hHeld'
          clear hHeld'
          try simp only [Act.put, List.setIfInBounds_toArray, List.set_cons_zero, List.set_cons_succ]
          refine rd1 13 (fun K hK => ?_)
          go_simp
          refine hK.out _ _ (hHeld) (fun hHeld' => ?_)
          clear hK K hHeld
          have hHeld := hHeld'
          clear hHeld'
          try simp only [Act.put, List.setIfInBounds_toArray, List.set_cons_zero, List.set_cons_succ]
          refine rd1 14 (fun K hK => ?_)
          go_simp
          refine hK.out _ _ (hHeld.trans (Frx.grow (setCell_grown _ _ _ _) (fun x hx hX => by injection hx with hx; subst hx; rcases hX with h | h <;> omega))) (fun hHeld' => ?_)
          clear hK K hHeld
          have hHeld := hHeld'
          clear hHeld'
          try simp only [Act.put, List.setIfInBounds_toArray, List.set_cons_zero, List.set_cons_succ]
          obtain ⟨V', hT', hF', hr'⟩ := HTa.out.step (bel_alloc (Bel.refl wD) (.cells #[.int .i64 (k : Int)] 2)) (t := true) (p := p) hpn (i := k) (v' := .slice (some ⟨gg, 0, none⟩) (La.length + 1) cap) (by rw [← HLa.out]; exact hownB) (by rw [Hva.out, ← HLa.out]; exact hgrow) (by rw [Hva.out, ← HLa.out]; exact hatF (by simpa using hat))
          have HCut : Hid (CutTb lo n0 Bb Be wr.heap.size (fun t' p' => if t' = true ∧ p' = p then Fa true p ++ [k] else Fa t' p') V1 (wB.setCell ⟨Bb, p, none⟩ (.slice (some ⟨gg, 0, none⟩) (La.length + 1) cap))) := ⟨⟨V', hT', (Frx.bel HbD.out).then hF' (fun x _ hx => ⟨hx.1, hx.2.1, HYa.out x hx.2.2⟩), fun t p hp e => (hr' t p _ hp e.symm).elim (fun h => hrowa t p hp h.symm) (fun h => by have h1 := HlRa.out; simp at h; omega)⟩⟩
          clear hr' hT' hF' hownB hgrow hat y6 z6 q6
          refine wpAnyH_done (by kernel_rfl) ?_ _
          refine NoPanic.normal ?_
          go_wp2_with fail
          go_meet
          exact HCut.out
        · go_simp
          refine hK.out _ _ (hHeld.trans (Frx.bel (bel_alloc (Bel.refl _) _))) (fun hHeld' => ?_)
          clear hK K hHeld
          have hHeld := hHeld'
          clear hHeld'
          try simp only [Act.put, List.setIfInBounds_toArray, List.set_cons_zero, List.set_cons_succ]
          refine rd1 9 (fun K hK => ?_)
          go_simp
          refine hK.out _ _ (hHeld) (fun hHeld' => ?_)
          clear hK K hHeld
          have hHeld := hHeld'
          clear hHeld'
          try simp only [Act.put, List.setIfInBounds_toArray, List.set_cons_zero, List.set_cons_succ]
          refine rd1 12 (fun K hK => ?_)
          refine step_append_lies _ rfl _ _ _ rfl lo 2 i0 (.int .i64 0) 1 8 Try.underlying48 hi0 hz0 hz1 hz2 rfl (by decide) (.slice saa La.length sca) La.length (intsN La) (by rfl) howna ⟨wD.heap.size, 0, none⟩ 1 1 [.int .i64 (k : Int)] (by rfl) (by rfl) (World.news_of_block (cs := #[.int .i64 (k : Int)]) (t := 2) (fr := (0, 0)) (heap_alloc_new wD _)) (by simp [Value.oneCell']) (by omega) (by unfold maxLen; omega) (by omega) (by simp; omega) (wD.heap.size + 1) (by simp) ?_
          intro gg cap wB hownB hgrow hat _
          obtain ⟨y6, z6, q6⟩ := HCa.out wB hgrow
          refine hK.out _ _ (hHeld.trans (Frx.grow hgrow (fun x hx hX => HXa.out x hx hX))) (fun hHeld' => ?_)
          clear hK K hHeld
          have hHeld := hHeld'
          clear hHeld'
          try simp only [Act.put, List.setIfInBounds_toArray, List.set_cons_zero, List.set_cons_succ]
          refine rd1 13 (fun K hK => ?_)
          go_simp
          refine hK.out _ _ (hHeld) (fun hHeld' => ?_)
          clear hK K hHeld
          have hHeld := hHeld'
          clear hHeld'
          try simp only [Act.put, List.setIfInBounds_toArray, List.set_cons_zero, List.set_cons_succ]
          refine rd1 14 (fun K hK => ?_)
          go_simp
          refine hK.out _ _ (hHeld.trans (Frx.grow (setCell_grown _ _ _ _) (fun x hx hX => by injection hx with hx; subst hx; rcases hX with h | h <;> omega))) (fun hHeld' => ?_)
          clear hK K hHeld
          have hHeld := hHeld'
          clear hHeld'
          try simp only [Act.put, List.setIfInBounds_toArray, List.set_cons_zero, List.set_cons_succ]
          obtain ⟨V', hT', hF', hr'⟩ := HTa.out.step (bel_alloc (Bel.refl wD) (.cells #[.int .i64 (k : Int)] 2)) (t := true) (p := p) hpn (i := k) (v' := .slice (some ⟨gg, 0, none⟩) (La.length + 1) cap) (by rw [← HLa.out]; exact hownB) (by rw [Hva.out, ← HLa.out]; exact hgrow) (by rw [Hva.out, ← HLa.out]; exact hatF (by simpa using hat))
          have HCut : Hid (CutTb lo n0 Bb Be wr.heap.size (fun t' p' => if t' = true ∧ p' = p then Fa true p ++ [k] else Fa t' p') V1 (wB.setCell ⟨Bb, p, none⟩ (.slice (some ⟨gg, 0, none⟩) (La.length + 1) cap))) := ⟨⟨V', hT', (Frx.bel HbD.out).then hF' (fun x _ hx => ⟨hx.1, hx.2.1, HYa.out x hx.2.2⟩), fun t p hp e => (hr' t p _ hp e.symm).elim (fun h => hrowa t p hp h.symm) (fun h => by have h1 := HlRa.out; simp at h; omega)⟩⟩
          clear hr' hT' hF' hownB hgrow hat y6 z6 q6
          refine wpAnyH_done (by kernel_rfl) ?_ _
          refine NoPanic.normal ?_
          go_wp2_with fail
          go_meet
          exact HCut.out
      case rest =>
      obtain ⟨Vb, hTb0, hFb0, hrowb⟩ := hcut.out
      obtain ⟨V2, rfl⟩ : ∃ V, V = wc := ⟨_, rfl⟩
      have XN2 := hFb0.blk XN1 ⟨d1, d2, .inl zn⟩
      have XR2 := hFb0.blk XR1 ⟨by omega, by omega, .inr rfl⟩
      obtain ⟨Fb, HFb⟩ : ∃ F, Hid (F = (fun t' p' => if t' = true ∧ p' = p then Fa true p ++ [k] else Fa t' p')) := ⟨_, (rfl : (fun t' p' => if t' = true ∧ p' = p then Fa true p ++ [k] else Fa t' p') = _)⟩
      rw [← HFb.out] at hTb0
      have hFlb : ∀ t p, (Fb t p).length ≤ 8001 := fun t p' => by
        rw [HFb.out]
        have h1 := hFla true p
        have h2 := hFla t p'
        show (if t = true ∧ p' = p then Fa true p ++ [k] else Fa t p').length ≤ 8001
        split
        · simp; omega
        · omega
      have hlRb : wr.heap.size < V2.heap.size := XR2.lt
      have HFR : Hid (Frx (fun x => x ≠ Bb ∧ x ≠ Be) wx V2) := HF1.out.then hFb0 (fun x hl hx => ⟨hx.1, hx.2, .inl (by rw [← Hlo.out]; exact hl)⟩)
      have hSb : ∀ w', Frx (fun x => x = N ∨ x = wr.heap.size) V2 w' → w'.cell? ⟨N, 4, none⟩ = some (.slice (some ⟨Be, 0, none⟩) n0 n0) ∧ w'.cell? ⟨wr.heap.size, 1, none⟩ = some (.int .i64 (q : Int)) := fun w' h =>
        ⟨(h.blk XN2 (.inl rfl)).cell 4 (by simp), (h.blk XR2 (.inr rfl)).cell 1 (by simp)⟩
      have HbDb : Bel V2 V2.drew := (Bel.refl V2).drew
      have hTdb := hTb0.bel HbDb
      have g3b : V2.drew.cell? ⟨Be, q, none⟩ = some (Vb false q) := hTdb.cell false q hqn
      have l3b : Be < V2.drew.heap.size := by have := hTdb.sz; omega
      clear hSa hrowa hTda hTb0 hFb0 hcut XN1 XR1 hT1 hFla hFl1 hrow g3a l3a HbDa
      go_wp2_with fail
      refine wp_region_noPanic ?_
      refine wp_region_held_drew (S := (fun w' => Frx (fun x => x = N ∨ x = wr.heap.size) V2 w')) (by kernel_rfl) (Frx.bel (Bel.refl _).drew) (fun hHeld => ?_)
      generalize V2.drew = wD at hHeld hTdb g3b l3b HbDb ⊢
      have HbD : Hid (Bel V2 wD) := HbDb
      have hTbb := hTdb.bel (bel_alloc (Bel.refl wD) (.cells #[.int .i64 (k : Int)] 2))
      have hownb := hTbb.rows false q hqn
      have HCb : Hid (∀ wB, (wD.alloc (.cells #[.int .i64 (k : Int)] 2)).grownBy wB (Vb false q).ownBlock → wB.cell? ⟨Be, q, none⟩ = some (Vb false q) ∧ wB.frozen? ⟨Be, q, none⟩ = false ∧ Be < wB.heap.size) := fun wB hg => by
        have hs : wB.heap[Be]? = (wD.alloc (.cells #[.int .i64 (k : Int)] 2)).heap[Be]? := hg.block Be (by have := hTbb.sz; omega) (hTbb.row_ne hqn Be (by omega))
        exact ⟨by rw [World.cell?_of_block (a := ⟨Be, q, none⟩) hs]; exact hTbb.cell false q hqn, by rw [World.frozen?_of_block (a := ⟨Be, q, none⟩) hs]; exact hTbb.free false q, Nat.lt_of_lt_of_le (by have := hTbb.sz; omega) hg.size⟩
      have HXb : Hid (∀ x, (Vb false q).ownBlock = some x → (x = N ∨ x = wr.heap.size) → False) := fun x hx hX => by
        rcases hX with h | h
        · subst h; exact hTdb.row_ne hqn x zn hx.symm
        · subst h; exact hrowb false q hqn hx.symm
      have HYb : Hid (∀ x, (x < lo ∨ x = wr.heap.size) → (x < lo ∨ some x ≠ (Vb false q).ownBlock)) := fun x hx => hx.imp id (fun h e => by subst h; exact hrowb false q hqn e)
      have HlRb : Hid (wr.heap.size < wD.heap.size) := Nat.lt_of_lt_of_le hlRb HbDb.out.size
      have hlDb : lo ≤ wD.heap.size := hTdb.sz
      have hlenb := hFlb false q
      obtain ⟨sab, scb, hvb⟩ := own_shape (hTdb.rows false q hqn)
      have Hvb : Hid (Vb false q = .slice sab (Fb false q).length scb) := hvb
      have HTb : Hid (Tabs lo wD (fun t => cond t Bb Be) n0 Vb Fb) := hTdb
      obtain ⟨Lb, HLb⟩ : ∃ L, Hid (L = Fb false q) := ⟨_, (rfl : Fb false q = _)⟩
      rw [hvb] at g3b hownb HCb HXb
      rw [← HLb.out] at g3b hownb HCb HXb hlenb
      clear hvb hTdb hTbb HbDb
      refine tk 0 hHeld ?_; refine tk 1 hHeld ?_; refine tk 2 hHeld ?_; refine tk 3 hHeld ?_; refine tk 4 hHeld ?_; refine tk 5 hHeld ?_
      refine tk 6 hHeld ?_; refine tk 7 hHeld ?_; refine tk 8 hHeld ?_; refine tk 10 hHeld ?_
      refine rd2 9 11 (fun K hK => ?_) (fun K hK => ?_)
      · go_simp
        refine hK.out _ _ (hHeld) (fun hHeld' => ?_)
        clear hK K hHeld
        have hHeld := hHeld'
        clear hHeld'
        try simp only [Act.put, List.setIfInBounds_toArray, List.set_cons_zero, List.set_cons_succ]
        refine rd1 11 (fun K hK => ?_)
        go_simp
        refine hK.out _ _ (hHeld.trans (Frx.bel (bel_alloc (Bel.refl _) _))) (fun hHeld' => ?_)
        clear hK K hHeld
        have hHeld := hHeld'
        clear hHeld'
        try simp only [Act.put, List.setIfInBounds_toArray, List.set_cons_zero, List.set_cons_succ]
        refine rd1 12 (fun K hK => ?_)
        refine step_append_lies _ rfl _ _ _ rfl lo 2 i0 (.int .i64 0) 1 8 Try.underlying48 hi0 hz0 hz1 hz2 rfl (by decide) (.slice sab Lb.length scb) Lb.length (intsN Lb) (by rfl) hownb ⟨wD.heap.size, 0, none⟩ 1 1 [.int .i64 (k : Int)] (by rfl) (by rfl) (World.news_of_block (cs := #[.int .i64 (k : Int)]) (t := 2) (fr := (0, 0)) (heap_alloc_new wD _)) (by simp [Value.oneCell']) (by omega) (by unfold maxLen; omega) (by omega) (by simp; omega) (wD.heap.size + 1) (by simp) ?_
        intro gg cap wB hownB hgrow hat _
        obtain ⟨y6, z6, q6⟩ := HCb.out wB hgrow
        refine hK.out _ _ (hHeld.trans (Frx.grow hgrow (fun x hx hX => HXb.out x hx hX))) (fun hHeld' => ?_)
        clear hK K hHeld
        have hHeld := hHeld'
        clear hHeld'
        try simp only [Act.put, List.setIfInBounds_toArray, List.set_cons_zero, List.set_cons_succ]
        refine rd1 13 (fun K hK => ?_)
        go_simp
        refine hK.out _ _ (hHeld) (fun hHeld' => ?_)
        clear hK K hHeld
        have hHeld := hHeld'
        clear hHeld'
        try simp only [Act.put, List.setIfInBounds_toArray, List.set_cons_zero, List.set_cons_succ]
        refine rd1 14 (fun K hK => ?_)
        go_simp
        refine hK.out _ _ (hHeld.trans (Frx.grow (setCell_grown _ _ _ _) (fun x hx hX => by injection hx with hx; subst hx; rcases hX with h | h <;> omega))) (fun hHeld' => ?_)
        clear hK K hHeld
        have hHeld := hHeld'
        clear hHeld'
        try simp only [Act.put, List.setIfInBounds_toArray, List.set_cons_zero, List.set_cons_succ]
        obtain ⟨V', hT', hF', hr'⟩ := HTb.out.step (bel_alloc (Bel.refl wD) (.cells #[.int .i64 (k : Int)] 2)) (t := false) (p := q) hqn (i := k) (v' := .slice (some ⟨gg, 0, none⟩) (Lb.length + 1) cap) (by rw [← HLb.out]; exact hownB) (by rw [Hvb.out, ← HLb.out]; exact hgrow) (by rw [Hvb.out, ← HLb.out]; exact hatF (by simpa using hat))
        have HCut : Hid (CutTb lo n0 Bb Be wr.heap.size (fun t' p' => if t' = false ∧ p' = q then Fb false q ++ [k] else Fb t' p') V2 (wB.setCell ⟨Be, q, none⟩ (.slice (some ⟨gg, 0, none⟩) (Lb.length + 1) cap))) := ⟨⟨V', hT', (Frx.bel HbD.out).then hF' (fun x _ hx => ⟨hx.1, hx.2.1, HYb.out x hx.2.2⟩), fun t p hp e => (hr' t p _ hp e.symm).elim (fun h => hrowb t p hp h.symm) (fun h => by have h1 := HlRb.out; simp at h; omega)⟩⟩
        clear hr' hT' hF' hownB hgrow hat y6 z6 q6
        refine wpAnyH_done (by kernel_rfl) ?_ _
        refine NoPanic.normal ?_
        obtain ⟨Vc, hTc, hFc, _⟩ := HCut.out
        rw [HFb.out, HFa.out, HFe.out, bgF_twoX hkl (by rw [← Hd.out]; exact HEP.out.1) (by rw [← Hd.out]; exact HEP.out.2)] at hTc
        have HF3 := HFR.out.then hFc (fun x hl hx => ⟨hx.1, hx.2, .inl (by rw [← Hlo.out]; exact hl)⟩)
        have HTc := Hid_mkX hTc
        have HF4 := Hid_mkX HF3
        clear hTc hFc HCut HF3
        go_wp2
        go_roundw
        case rel => exact ⟨k + 1, Vc, by omega, by go_num, HTc.out, HF4.out⟩
        case measure => simp [intOf]; omega
      · go_simp
        refine hK.out _ _ (hHeld.trans (Frx.bel (bel_alloc (Bel.refl _) _))) (fun hHeld' => ?_)
        clear hK K hHeld
        have hHeld := hHeld'
        clear hHeld'
        try simp only [Act.put, List.setIfInBounds_toArray, List.set_cons_zero, List.set_cons_succ]
        refine rd1 9 (fun K hK => ?_)
        go_simp
        refine hK.out _ _ (hHeld) (fun hHeld' => ?_)
        clear hK K hHeld
        have hHeld := hHeld'
        clear hHeld'
        try simp only [Act.put, List.setIfInBounds_toArray, List.set_cons_zero, List.set_cons_succ]
        refine rd1 12 (fun K hK => ?_)
        refine step_append_lies _ rfl _ _ _ rfl lo 2 i0 (.int .i64 0) 1 8 Try.underlying48 hi0 hz0 hz1 hz2 rfl (by decide) (.slice sab Lb.length scb) Lb.length (intsN Lb) (by rfl) hownb ⟨wD.heap.size, 0, none⟩ 1 1 [.int .i64 (k : Int)] (by rfl) (by rfl) (World.news_of_block (cs := #[.int .i64 (k : Int)]) (t := 2) (fr := (0, 0)) (heap_alloc_new wD _)) (by simp [Value.oneCell']) (by omega) (by unfold maxLen; omega) (by omega) (by simp; omega) (wD.heap.size + 1) (by simp) ?_
        intro gg cap wB hownB hgrow hat _
        obtain ⟨y6, z6, q6⟩ := HCb.out wB hgrow
        refine hK.out _ _ (hHeld.trans (Frx.grow hgrow (fun x hx hX => HXb.out x hx hX))) (fun hHeld' => ?_)
        clear hK K hHeld
        have hHeld := hHeld'
        clear hHeld'
        try simp only [Act.put, List.setIfInBounds_toArray, List.set_cons_zero, List.set_cons_succ]
        refine rd1 13 (fun K hK => ?_)
        go_simp
        refine hK.out _ _ (hHeld) (fun hHeld' => ?_)
        clear hK K hHeld
        have hHeld := hHeld'
        clear hHeld'
        try simp only [Act.put, List.setIfInBounds_toArray, List.set_cons_zero, List.set_cons_succ]
        refine rd1 14 (fun K hK => ?_)
        go_simp
        refine hK.out _ _ (hHeld.trans (Frx.grow (setCell_grown _ _ _ _) (fun x hx hX => by injection hx with hx; subst hx; rcases hX with h | h <;> omega))) (fun hHeld' => ?_)
        clear hK K hHeld
        have hHeld := hHeld'
        clear hHeld'
        try simp only [Act.put, List.setIfInBounds_toArray, List.set_cons_zero, List.set_cons_succ]
        obtain ⟨V', hT', hF', hr'⟩ := HTb.out.step (bel_alloc (Bel.refl wD) (.cells #[.int .i64 (k : Int)] 2)) (t := false) (p := q) hqn (i := k) (v' := .slice (some ⟨gg, 0, none⟩) (Lb.length + 1) cap) (by rw [← HLb.out]; exact hownB) (by rw [Hvb.out, ← HLb.out]; exact hgrow) (by rw [Hvb.out, ← HLb.out]; exact hatF (by simpa using hat))
        have HCut : Hid (CutTb lo n0 Bb Be wr.heap.size (fun t' p' => if t' = false ∧ p' = q then Fb false q ++ [k] else Fb t' p') V2 (wB.setCell ⟨Be, q, none⟩ (.slice (some ⟨gg, 0, none⟩) (Lb.length + 1) cap))) := ⟨⟨V', hT', (Frx.bel HbD.out).then hF' (fun x _ hx => ⟨hx.1, hx.2.1, HYb.out x hx.2.2⟩), fun t p hp e => (hr' t p _ hp e.symm).elim (fun h => hrowb t p hp h.symm) (fun h => by have h1 := HlRb.out; simp at h; omega)⟩⟩
        clear hr' hT' hF' hownB hgrow hat y6 z6 q6
        refine wpAnyH_done (by kernel_rfl) ?_ _
        refine NoPanic.normal ?_
        obtain ⟨Vc, hTc, hFc, _⟩ := HCut.out
        rw [HFb.out, HFa.out, HFe.out, bgF_twoX hkl (by rw [← Hd.out]; exact HEP.out.1) (by rw [← Hd.out]; exact HEP.out.2)] at hTc
        have HF3 := HFR.out.then hFc (fun x hl hx => ⟨hx.1, hx.2, .inl (by rw [← Hlo.out]; exact hl)⟩)
        have HTc := Hid_mkX hTc
        have HF4 := Hid_mkX HF3
        clear hTc hFc HCut HF3
        go_wp2
        go_roundw
        case rel => exact ⟨k + 1, Vc, by omega, by go_num, HTc.out, HF4.out⟩
        case measure => simp [intOf]; omega
    · have he : k = n1 := by omega
      subst he
      have XG := hF.blk XGx ⟨by omega, by omega⟩
      have XZ := hF.blk XZx ⟨by omega, by omega⟩
      have hSr := frx_bx hF hSM ⟨fun e => d5 e.symm, fun e => d6 e.symm⟩
      have hI := hF.sl banE hR2 (fun x hx => ⟨by have := hbs2 x hx; omega, by have := hbs2 x hx; omega⟩)
      have hBr : Bel w wr := hBx.out.trans (hF.below (fun k hk => ⟨by omega, by omega⟩) hBx.out.size)
      have k5 : wr.cell? ⟨N, 5, none⟩ = some (.map (some M)) := XN.cell 5 (by simp)
      have k2 : wr.cell? ⟨w.heap.size, 2, none⟩ = some (.slice a2 n2 c2) := XG.cell 2 (by simp)
      have kl := XN.lt
      have kg := XG.lt
      clear hF XNx XGx XZx hSM hR1 hR2
      go_wp2_with fail
      refine (putX_any M [] _ _ _ g.bans b2 _ hSr (Nat.zero_le _) hI H2.out (by omega) (fun h => by have := hbs2 M h; omega)).mono ?_
      rintro e w2 ⟨rfl, hS2, _, hg2⟩
      have hT2 := hT.kept hg2 zm (fun e => d5 e.symm) (fun e => d6 e.symm)
      have XN2 := XN.kept hg2 (fun e => by injection e with e; exact d3 e)
      have XZ2 := XZ.kept hg2 (fun e => by injection e with e; omega)
      have hB2 : Bel w w2 := bel_grow hBr hg2 (fun k hk => by injection hk with hk; omega)
      have HS2 : Hid (BX w2 M g.bans) := by
        rw [HFC.out] at hS2
        exact hS2
      have s0 : w2.cell? ⟨N, 0, none⟩ = some (.slice a0 n0 c0) := XN2.cell 0 (by simp)
      have s1 : w2.cell? ⟨N, 1, none⟩ = some (.slice a1 k c1) := XN2.cell 1 (by simp)
      have s2 : w2.cell? ⟨N, 2, none⟩ = some (.slice a2 n2 c2) := XN2.cell 2 (by simp)
      have s3 : w2.cell? ⟨N, 3, none⟩ = some (.slice (some ⟨Bb, 0, none⟩) n0 n0) := XN2.cell 3 (by simp)
      have s4 : w2.cell? ⟨N, 4, none⟩ = some (.slice (some ⟨Be, 0, none⟩) n0 n0) := XN2.cell 4 (by simp)
      have s5 : w2.cell? ⟨N, 5, none⟩ = some (.map (some M)) := XN2.cell 5 (by simp)
      have sl := XN2.lt
      have r0 : w2.cell? ⟨w.heap.size + 1, 0, none⟩ = some (.slice none 0 0) := XZ2.cell 0 (by simp)
      have r1 : w2.cell? ⟨w.heap.size + 1, 1, none⟩ = some (.slice none 0 0) := XZ2.cell 1 (by simp)
      have r2 : w2.cell? ⟨w.heap.size + 1, 2, none⟩ = some (.slice none 0 0) := XZ2.cell 2 (by simp)
      have r3 : w2.cell? ⟨w.heap.size + 1, 3, none⟩ = some (.slice none 0 0) := XZ2.cell 3 (by simp)
      have r4 : w2.cell? ⟨w.heap.size + 1, 4, none⟩ = some (.slice none 0 0) := XZ2.cell 4 (by simp)
      have r5 : w2.cell? ⟨w.heap.size + 1, 5, none⟩ = some (.map none) := XZ2.cell 5 (by simp)
      have rf := XZ2.free
      have rl := XZ2.lt
      have HA : Hid (∀ W', w2.grownBy W' (some (w.heap.size + 1)) → NetOutX w (.slice a0 n0 c0) (.slice a1 k c1) (.slice a2 n2 c2) g (.returned (.tuple #[.agg #[.slice a0 n0 c0, .slice a1 k c1, .slice a2 n2 c2, .slice (some ⟨Bb, 0, none⟩) n0 n0, .slice (some ⟨Be, 0, none⟩) n0 n0, .map (some M)], .bool true])) W') := fun W' hg => by
        refine ⟨⟨lo, Bb, Be, M, V, by rw [H0.out], ?_, ?_, zm, fun e => d5 e.symm, fun e => d6 e.symm, ⟨by omega, by omega, by omega⟩, bel_grow hB2 hg (fun k hk => by injection hk with hk; omega)⟩⟩
        · rw [H0.out, H1.out]; exact hT2.kept hg (by have := HLO.out; omega) (by show w.heap.size + 1 ≠ Bb; omega) (by show w.heap.size + 1 ≠ Be; omega)
        · exact HS2.out.kept hg (fun e => by injection e with e; omega)
      clear hT hT2 XN XN2 XZ XZ2 XG hSr hI hBr hS2 hg2 k5 k2 kl kg hB2
      go_wp2
      refine bodyPost_ret (v := .tuple #[.agg #[.slice a0 n0 c0, .slice a1 k c1, .slice a2 n2 c2, .slice (some ⟨Bb, 0, none⟩) n0 n0, .slice (some ⟨Be, 0, none⟩) n0 n0, .map (some M)], .bool true]) (by simp [results, Try.results30, go_sem, r0, r1, r2, r3, r4, r5]) rfl ?_
      refine HA.out _ ?_
      with_reducible repeat (first | exact World.grownBy.refl _ _ | refine World.grownBy.trans ?_ (setCell_grown _ _ _ _))

set_option maxRecDepth 100000 in
set_option maxHeartbeats 1000000 in
theorem networkOf_noX (a0 : Option Addr) (n0 c0 : Nat) (a1 : Option Addr) (n1 c1 : Nat) (a2 : Option Addr) (n2 c2 : Nat) (g : GraphD) (bs : List Nat) (w : World) (hV : GphV w (gphV a0 n0 c0 a1 n1 c1 a2 n2 c2) g bs) (hQ : GphQ g) (hP : ¬ graphP g) :
    Calls Try.prog 30 #[gphV a0 n0 c0 a1 n1 c1 a2 n2 c2] w fun e w' => e = .returned (.tuple #[.agg #[.slice none 0 0, .slice none 0 0, .slice none 0 0, .slice none 0 0, .slice none 0 0, .map none], .bool false]) ∧ Bel w w' := by
  obtain ⟨W, HW⟩ : ∃ W, Hid (W = (w.alloc (.cells #[.slice a0 n0 c0, .slice a1 n1 c1, .slice a2 n2 c2] 34)).alloc (.cells #[.slice none 0 0, .slice none 0 0, .slice none 0 0, .slice none 0 0, .slice none 0 0, .map none] 59)) := ⟨_, (rfl : (w.alloc (.cells #[.slice a0 n0 c0, .slice a1 n1 c1, .slice a2 n2 c2] 34)).alloc (.cells #[.slice none 0 0, .slice none 0 0, .slice none 0 0, .slice none 0 0, .slice none 0 0, .map none] 59) = _)⟩
  have hBW : Bel w W := by rw [HW.out]; exact bel_alloc (bel_alloc (Bel.refl _) _) _
  have XZ : Blk W (w.heap.size + 1) [.slice none 0 0, .slice none 0 0, .slice none 0 0, .slice none 0 0, .slice none 0 0, .map none] := by rw [HW.out]; exact Blk.new1 w _ [.slice none 0 0, .slice none 0 0, .slice none 0 0, .slice none 0 0, .slice none 0 0, .map none] _
  have HB : Hid (bP (graphP g) = false) := bP_false hP
  go_enter Try.func30, Try.ntmps30
  go_wp2_with fail
  rw [← HW.out]
  refine (graphOk_any _ g bs _ (hV.bel hBW) hQ).mono ?_
  rintro e w1 ⟨rfl, hb1⟩
  rw [HB.out]
  have XZ2 := XZ.bel hb1
  have r0 : w1.cell? ⟨w.heap.size + 1, 0, none⟩ = some (.slice none 0 0) := XZ2.cell 0 (by simp)
  have r1 : w1.cell? ⟨w.heap.size + 1, 1, none⟩ = some (.slice none 0 0) := XZ2.cell 1 (by simp)
  have r2 : w1.cell? ⟨w.heap.size + 1, 2, none⟩ = some (.slice none 0 0) := XZ2.cell 2 (by simp)
  have r3 : w1.cell? ⟨w.heap.size + 1, 3, none⟩ = some (.slice none 0 0) := XZ2.cell 3 (by simp)
  have r4 : w1.cell? ⟨w.heap.size + 1, 4, none⟩ = some (.slice none 0 0) := XZ2.cell 4 (by simp)
  have r5 : w1.cell? ⟨w.heap.size + 1, 5, none⟩ = some (.map none) := XZ2.cell 5 (by simp)
  have rf := XZ2.free
  have rl := XZ2.lt
  have HA : Hid (∀ W', w1.grownBy W' (some (w.heap.size + 1)) → Bel w W') := fun W' hg => bel_grow (bel_step hBW hb1) hg (fun k hk => by injection hk with hk; omega)
  clear XZ XZ2
  go_wp2
  refine bodyPost_ret (v := .tuple #[.agg #[.slice none 0 0, .slice none 0 0, .slice none 0 0, .slice none 0 0, .slice none 0 0, .map none], .bool false]) (by simp [results, Try.results30, go_sem, r0, r1, r2, r3, r4, r5]) rfl ?_
  refine ⟨rfl, HA.out _ ?_⟩
  with_reducible repeat (first | exact World.grownBy.refl _ _ | refine World.grownBy.trans ?_ (setCell_grown _ _ _ _))
end Go.Proofs.Ytiagdabikbjbiaa
