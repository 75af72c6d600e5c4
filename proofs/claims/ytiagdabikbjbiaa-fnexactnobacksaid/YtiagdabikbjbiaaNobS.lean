/-
  Turns back forbidden, in the model: contract of spec.NoBack.
-/
import Derived.Test.YtiagdabikbjbiaaFbdS
import Derived.Test.YtiagdabikbjbiaaNobI
namespace Go.Proofs.Ytiagdabikbjbiaa
open Go.RowKit Go.Maps

/-- The numbers of the turns back, as the model holds them. -/
def bkN (rs : List RoadD) (x : Nat) (row : List Nat) : List Int := (row.filter (isBk rs x)).map fun (k : Nat) => (k : Int)
theorem bkN_step {rs : List RoadD} {x k : Nat} (hk : k < rs.length) (p : Nat) :
    bkN rs x (bgF rs (k + 1) true p) = if rs[k].fr = (p : Int) ∧ isBk rs x k = true then bkN rs x (bgF rs k true p) ++ [(k : Int)] else bkN rs x (bgF rs k true p) := by
  rw [bgF_succ hk]
  show bkN rs x (if rs[k].fr = (p : Int) then _ else _) = _
  unfold bkN
  by_cases h1 : rs[k].fr = (p : Int)
  · rw [if_pos h1]
    by_cases h2 : isBk rs x k = true
    · rw [if_pos ⟨h1, h2⟩, List.filter_append, List.map_append]; simp [h2]
    · rw [if_neg (fun h => h2 h.2), List.filter_append, List.map_append]; simp [h2]
  · rw [if_neg h1, if_neg (fun h => h1 h.1)]
theorem bkG_step {rs : List RoadD} {x k : Nat} (hk : k < rs.length) (p : Nat) :
    goes rs x (bgF rs (k + 1) true p) = if rs[k].fr = (p : Int) ∧ ¬ isBk rs x k = true then true else goes rs x (bgF rs k true p) := by
  rw [bgF_succ hk]
  show goes rs x (if rs[k].fr = (p : Int) then _ else _) = _
  unfold goes
  by_cases h1 : rs[k].fr = (p : Int)
  · rw [if_pos h1, List.any_append]
    by_cases h2 : isBk rs x k = true
    · rw [if_neg (fun h => h.2 h2)]; simp [h2]
    · rw [if_pos ⟨h1, h2⟩]; simp [h2]
  · rw [if_neg h1, if_neg (fun h => h1 h.1)]
theorem bkN_bkS (rs : List RoadD) (x : Nat) (row : List Nat) : bkS rs x row = (bkN rs x row).map fun (k : Int) => (⟨(x : Int), k⟩ : BanD) := by
  unfold bkS bkN
  rw [List.map_map]; rfl
theorem bkN_in {rs : List RoadD} {x n p : Nat} {k : Int} (h : k ∈ bkN rs x (bgF rs n true p)) : 0 ≤ k ∧ k < n := by
  unfold bkN at h
  obtain ⟨i, hi, rfl⟩ := List.mem_map.1 h
  have := bgF_mem (List.mem_filter.1 hi).1
  omega
theorem bkN_len (rs : List RoadD) (x n p : Nat) : (bkN rs x (bgF rs n true p)).length ≤ n := by
  unfold bkN
  rw [List.length_map]
  exact Nat.le_trans (List.length_filter_le _ _) (bgF_len _ _ _ _)
/-- Once there are too many, there are too many in the end. -/
theorem nsF_stay {rs : List RoadD} {n : Nat} {B : List BanD} {i : Nat} (h : ¬ (nsF rs n B i).length ≤ 2000) : ∀ d, nsF rs n B (i + d) = nsF rs n B i
  | 0 => rfl
  | d + 1 => by
    have hi := nsF_stay h d
    rw [← Nat.add_assoc]
    show (if _ then bkL rs (i + d) (nsF rs n B (i + d)) _ else nsF rs n B (i + d)) = _
    split
    · rw [bkL_fold, hi, fold_cap_no _ h]
    · exact hi
theorem nsF_at {rs : List RoadD} {n : Nat} {B : List BanD} {i p : Nat} (hi : i < rs.length) (hp : rs[i].to = (p : Int)) : nsF rs n B (i + 1) = if goes rs i (bgF rs n true p) then ((bkN rs i (bgF rs n true p)).map fun (k : Int) => (⟨(i : Int), k⟩ : BanD)).foldl capB (nsF rs n B i) else nsF rs n B i := by
  have hD : rs.getD i default = rs[i] := by rw [List.getD_eq_getElem?_getD, List.getElem?_eq_getElem hi]; rfl
  have hpt : (endR false rs[i]).toNat = p := by show rs[i].to.toNat = p; rw [hp]; rfl
  show (if goes rs i (bgF rs n true (endR false (rs.getD i default)).toNat) then bkL rs i (nsF rs n B i) (bgF rs n true (endR false (rs.getD i default)).toNat) else nsF rs n B i) = _
  rw [hD, hpt, bkL_fold, bkN_bkS]

set_option maxRecDepth 100000 in
set_option maxHeartbeats 4000000 in
theorem specNoBack_any (v : Value) (g : GraphD) (bs : List Nat) (w : World) (hV : GphV w v g bs) (hQ : GphQ g) :
    Calls Try.prog 16 #[v] w fun e w' => ∃ v' bs', e = .returned v' ∧ GphV w' v' (nobQ g) bs' ∧ Fresh w w' bs' ∧ Bel w w' := by
  have hV' := hV
  obtain ⟨a0, c0, a1, c1, a2, c2, b0, b1, b2, _, rfl, t0, t1, t2⟩ := hV
  obtain ⟨n0, H0⟩ : ∃ n, Hid (g.places.length = n) := ⟨_, (rfl : g.places.length = _)⟩
  obtain ⟨n1, H1⟩ : ∃ n, Hid (g.roads.length = n) := ⟨_, (rfl : g.roads.length = _)⟩
  obtain ⟨n2, H2⟩ : ∃ n, Hid (g.bans.length = n) := ⟨_, (rfl : g.bans.length = _)⟩
  rw [H0.out, H1.out, H2.out] at hV' ⊢
  obtain ⟨R, HR⟩ : ∃ R, Hid (nobQ g = R) := ⟨_, (rfl : nobQ g = _)⟩
  rw [HR.out]
  obtain ⟨V, HV⟩ : ∃ V, Hid (V = (w.alloc (.cells #[.slice a0 n0 c0, .slice a1 n1 c1, .slice a2 n2 c2] 34)).alloc (.cells #[.slice none 0 0, .slice none 0 0, .slice none 0 0] 34)) := ⟨_, (rfl : (w.alloc (.cells #[.slice a0 n0 c0, .slice a1 n1 c1, .slice a2 n2 c2] 34)).alloc (.cells #[.slice none 0 0, .slice none 0 0, .slice none 0 0] 34) = _)⟩
  have hBV : Bel w V := by rw [HV.out]; exact bel_alloc (bel_alloc (Bel.refl _) _) _
  have XG : Blk V w.heap.size [.slice a0 n0 c0, .slice a1 n1 c1, .slice a2 n2 c2] := by rw [HV.out]; exact (Blk.new w [.slice a0 n0 c0, .slice a1 n1 c1, .slice a2 n2 c2] _).bel (bel_alloc (Bel.refl _) _)
  have XR : Blk V (w.heap.size + 1) [.slice none 0 0, .slice none 0 0, .slice none 0 0] := by rw [HV.out]; exact Blk.new1 w _ [.slice none 0 0, .slice none 0 0, .slice none 0 0] _
  have hlo : w.heap.size ≤ w.heap.size + 1 := Nat.le_succ _
  have xg0 : V.cell? ⟨w.heap.size, 0, none⟩ = some (.slice a0 n0 c0) := XG.cell 0 (by simp)
  have xg1 : V.cell? ⟨w.heap.size, 1, none⟩ = some (.slice a1 n1 c1) := XG.cell 1 (by simp)
  have xg2 : V.cell? ⟨w.heap.size, 2, none⟩ = some (.slice a2 n2 c2) := XG.cell 2 (by simp)
  have xgl := XG.lt
  have hGr : ∀ r, bP (graphP g) = r → Calls Try.prog 22 #[gphV a0 n0 c0 a1 n1 c1 a2 n2 c2] V fun e w2 => e = .returned (.bool r) ∧ Bel V w2 := fun r hr => by
    rw [← hr]; exact specGraphOk_any _ g bs _ (hV'.bel hBV) hQ
  go_enter Try.func16, Try.ntmps16
  go_upto_region 1 with fail
  rw [← HV.out]
  by_cases hP : graphP g
  rotate_left
  · have HF : Hid (R = ⟨[], [], []⟩) := (by rw [← HR.out]; exact nobQ_no hP : R = ⟨[], [], []⟩)
    have hG := hGr false (bP_false hP)
    clear hGr
    go_wp2_with fail
    refine hG.mono ?_
    rintro e U ⟨rfl, hBU⟩
    have XRU := XR.bel hBU
    have r0 : U.cell? ⟨w.heap.size + 1, 0, none⟩ = some (.slice none 0 0) := XRU.cell 0 (by simp)
    have r1 : U.cell? ⟨w.heap.size + 1, 1, none⟩ = some (.slice none 0 0) := XRU.cell 1 (by simp)
    have r2 : U.cell? ⟨w.heap.size + 1, 2, none⟩ = some (.slice none 0 0) := XRU.cell 2 (by simp)
    have f0 := XRU.free 0
    have f1 := XRU.free 1
    have f2 := XRU.free 2
    have rl := XRU.lt
    obtain ⟨s0, s1, s2, hBX⟩ := zer_end XRU (bel_step hBV hBU)
    have HX : Hid (zerW w U = ((U.setCell ⟨w.heap.size + 1, 0, none⟩ (.slice none 0 0)).setCell ⟨w.heap.size + 1, 1, none⟩ (.slice none 0 0)).setCell ⟨w.heap.size + 1, 2, none⟩ (.slice none 0 0)) := (rfl : zerW w U = _)
    generalize zerW w U = X at s0 s1 s2 hBX HX
    clear hG xg0 xg1 xg2 xgl
    go_wp2
    rw [← HX.out]
    refine bodyPost_ret (v := .agg #[.slice none 0 0, .slice none 0 0, .slice none 0 0]) (by simp [results, Try.results16, go_sem, s0, s1, s2]) rfl ⟨_, [], rfl, ?_, Fresh.nil _ _, hBX⟩
    rw [HF.out]
    exact ⟨none, 0, none, 0, none, 0, [], [], [], rfl, rfl, Sl.nil, Sl.nil, Sl.nil⟩
  have hG := hGr true (bP_true hP)
  clear hGr
  go_wp2_with fail
  refine hG.mono ?_
  rintro e U ⟨rfl, hBU⟩
  have XRU := XR.bel hBU
  have XGU := XG.bel hBU
  clear hG xg0 xg1 xg2 xgl
  have HF : Hid (R = tldQ g (nsF g.roads n1 g.bans n1)) := (by rw [← HR.out, nobQ_yes hP, H1.out] : R = tldQ g (nsF g.roads n1 g.bans n1))
  have m0 : n0 ≤ 5000 := by rw [← H0.out]; exact hP.1.1
  have m1 : n1 ≤ 8000 := by rw [← H1.out]; exact hP.1.2.1
  have m2 : n2 ≤ 2000 := by rw [← H2.out]; exact hP.1.2.2
  have HSP : Hid (spotsP g.places) := hP.2.1
  have hsrt : SrtB g.bans := bans_srt hP.2.2.2
  have y0 : U.cell? ⟨w.heap.size, 0, none⟩ = some (.slice a0 n0 c0) := XGU.cell 0 (by simp)
  have y1 : U.cell? ⟨w.heap.size, 1, none⟩ = some (.slice a1 n1 c1) := XGU.cell 1 (by simp)
  have y2 : U.cell? ⟨w.heap.size, 2, none⟩ = some (.slice a2 n2 c2) := XGU.cell 2 (by simp)
  have yl := XGU.lt
  have hB0U := bel_step hBV hBU
  go_wp2_with fail
  refine (l9CopyC_any a0 n0 c0 a1 n1 c1 a2 n2 c2 g b0 b1 b2 U (t0.bel spotE hB0U) (t1.bel roadE hB0U) (t2.bel banE hB0U) H0.out H1.out H2.out (by omega) (by omega) (by omega)).mono ?_
  rintro e w1 ⟨v1, d, rfl, hG1, hF1, hb1, hC1⟩
  obtain ⟨A0, C0, A1, C1, A2, C2, d0, d1, d2, rfl, rfl, T0, T1, T2, hcap⟩ := gph_open hG1 hC1
  clear hG1 hC1 y0 y1 y2 yl XG
  have HRP : Hid (∀ i (h : i < g.roads.length), 0 ≤ g.roads[i].to ∧ g.roads[i].to < g.places.length) := fun i h => (roadB_out (hP.2.2.1 i h)).2.1
  rw [H2.out] at hcap
  rw [H0.out, H1.out, H2.out]
  obtain ⟨Z, HZ⟩ : ∃ Z, Hid (Z = w1.alloc (.cells #[.slice A0 n0 C0, .slice A1 n1 C1, .slice A2 n2 C2] 34)) := ⟨_, (rfl : w1.alloc (.cells #[.slice A0 n0 C0, .slice A1 n1 C1, .slice A2 n2 C2] 34) = _)⟩
  have hB1Z : Bel w1 Z := by rw [HZ.out]; exact bel_alloc (Bel.refl _) _
  have XO : Blk Z w1.heap.size [.slice A0 n0 C0, .slice A1 n1 C1, .slice A2 n2 C2] := by rw [HZ.out]; exact Blk.new w1 [.slice A0 n0 C0, .slice A1 n1 C1, .slice A2 n2 C2] _
  have hsZ : Hid (w1.heap.size < Z.heap.size) := XO.lt
  have hnd2 : Hid (w1.heap.size ∉ d2) := (fun h => absurd (T2.lt banE _ h) (Nat.lt_irrefl _) : w1.heap.size ∉ d2)
  have HRZ : Hid (BRow Z A2 C2 d2 Z g.bans A2 n2 C2 d2) := (⟨T2.bel banE hB1Z, H2.out, hcap, hsrt, .inl ⟨rfl, rfl, rfl⟩⟩ : BRow Z A2 C2 d2 Z g.bans A2 n2 C2 d2)
  have hb0w1 := bel_step hB0U hb1
  have hs2 : w.heap.size + 1 < V.heap.size := XR.lt
  have hVw1 : V.heap.size ≤ w1.heap.size := Nat.le_trans hBU.out.size hb1.out.size
  have XR1 := XRU.bel hb1
  have XG1 := XGU.bel hb1
  have HE1 : Hid (g.roads.length = n1) := H1.out
  go_wp2_with fail
  rw [← HZ.out]
  go_wp2_with fail
  go_loopw [4, 5, 6, 7, 8, 9, 10] (fun i _ _ _ _ _ _ wr => ∃ (k : Nat) (a : Option Addr) (n c : Nat) (bs : List Nat), k ≤ n1 ∧ i = .int .i64 k ∧ n ≤ 2000 ∧ Hid (BRow Z A2 C2 d2 wr (nsF g.roads n1 g.bans k) a n c bs) ∧ Hid (Blk wr w1.heap.size [.slice A0 n0 C0, .slice A1 n1 C1, .slice a n c]) ∧ Hid (Bel w1 wr) ∧ Hid (Z.heap.size ≤ wr.heap.size)) (fun i _ _ _ _ _ _ _ => n1 - (intOf i).toNat)
  case atStart => exact ⟨0, A2, n2, C2, d2, Nat.zero_le _, rfl, m2, HRZ, XO, hB1Z, (Nat.le_refl _ : Z.heap.size ≤ Z.heap.size)⟩
  case round =>
    obtain ⟨k, a, n, c, bs, hk1, rfl, hn, HRr, HXO, HB, Hs⟩ := hrel
    have hBr : Bel w wr := bel_step hb0w1 HB.out
    have XGr := XG1.bel HB.out
    have z1 : wr.cell? ⟨w.heap.size, 1, none⟩ = some (.slice a1 n1 c1) := XGr.cell 1 (by simp)
    have zl := XGr.lt
    by_cases hlt : k < n1
    · have hkl : k < g.roads.length := by rw [HE1.out]; exact hlt
      have hlt' : (k : Int) < (n1 : Int) := by omega
      have hkp := HRP.out k hkl
      obtain ⟨p, hpp⟩ : ∃ p : Nat, g.roads[k].to = (p : Int) := ⟨g.roads[k].to.toNat, by omega⟩
      have HNS : Hid (nsF g.roads n1 g.bans (k + 1) = if goes g.roads k (bgF g.roads n1 true p) then ((bkN g.roads k (bgF g.roads n1 true p)).map fun (t : Int) => (⟨(k : Int), t⟩ : BanD)).foldl capB (nsF g.roads n1 g.bans k) else nsF g.roads n1 g.bans k) := nsF_at hkl hpp
      obtain ⟨b, off, ff, rfl, hb, hx⟩ := (t1.bel roadE hBr).out hkl
      obtain ⟨_, _, _, _, _, _, _, y0, y1, y2, y3, y4, y5⟩ := hx k hkl
      rw [hpp] at y1
      obtain ⟨xf, Hxf⟩ : ∃ d, Hid (d = g.roads[k].fr) := ⟨_, (rfl : g.roads[k].fr = _)⟩
      obtain ⟨xw, Hxw⟩ : ∃ d, Hid (d = g.roads[k].way) := ⟨_, (rfl : g.roads[k].way = _)⟩
      obtain ⟨xt, Hxt⟩ : ∃ d, Hid (d = g.roads[k].time) := ⟨_, (rfl : g.roads[k].time = _)⟩
      obtain ⟨xl, Hxl⟩ : ∃ d, Hid (d = g.roads[k].len) := ⟨_, (rfl : g.roads[k].len = _)⟩
      obtain ⟨xn, Hxn⟩ : ∃ d, Hid (d = g.roads[k].name) := ⟨_, (rfl : g.roads[k].name = _)⟩
      rw [← Hxf.out] at y0
      rw [← Hxw.out] at y2
      rw [← Hxt.out] at y3
      rw [← Hxl.out] at y4
      rw [← Hxn.out] at y5
      clear hx
      obtain ⟨Wa, HWa⟩ : ∃ T, Hid (T = wr.alloc (.cells #[.int .i64 xf, .int .i64 p, .int .i64 xw, .int .i64 xt, .int .i64 xl, .string xn] 72)) := ⟨_, (rfl : wr.alloc (.cells #[.int .i64 xf, .int .i64 p, .int .i64 xw, .int .i64 xt, .int .i64 xl, .string xn] 72) = _)⟩
      have hBa : Bel wr Wa := by rw [HWa.out]; exact bel_alloc (Bel.refl _) _
      have XA : Blk Wa wr.heap.size [.int .i64 xf, .int .i64 p, .int .i64 xw, .int .i64 xt, .int .i64 xl, .string xn] := by rw [HWa.out]; exact Blk.new wr [.int .i64 xf, .int .i64 p, .int .i64 xw, .int .i64 xt, .int .i64 xl, .string xn] _
      obtain ⟨Wb, HWb⟩ : ∃ T, Hid (T = Wa.alloc (.cells #[] 2)) := ⟨_, (rfl : Wa.alloc (.cells #[] 2) = _)⟩
      have hBb : Bel Wa Wb := by rw [HWb.out]; exact bel_alloc (Bel.refl _) _
      have O0 : OwnI Wa.heap.size Wb (.slice (some ⟨Wa.heap.size, 0, none⟩) 0 0) [] := by rw [HWb.out]; exact World.ownsRow_made (e := 2) (size := 1) (base := Wa.heap.size) Wa #[] 0 (Nat.le_refl _) (by unfold maxLen; omega) (by rfl)
      have XG2 := XGr.bel hBa
      have hszA : w1.heap.size < Wa.heap.size := by have := HB.out.out.size; have := XA.lt; omega
      obtain ⟨Ba, HBa⟩ : ∃ n, Hid (wr.heap.size = n) := ⟨_, (rfl : wr.heap.size = _)⟩
      rw [HBa.out] at XA
      go_upto_region 8 with fail
      rw [← HWa.out, HBa.out]
      go_upto_region 9 with fail
      rw [← HWb.out]
      go_wp2_with fail
      clear z1 zl y0 y1 y2 y3 y4 y5
      go_loopw [6, 7, 8, 9] (fun v o i _ wq => ∃ j : Nat, j ≤ n1 ∧ i = .int .i64 j ∧ o = .bool (goes g.roads k (bgF g.roads j true p)) ∧ Hid (OwnI Wa.heap.size wq v (bkN g.roads k (bgF g.roads j true p))) ∧ Hid (Bel Wa wq)) (fun _ _ i _ _ => n1 - (intOf i).toNat)
      case atStart => exact ⟨0, Nat.zero_le _, rfl, rfl, O0, hBb⟩
      case round =>
        obtain ⟨j, hj, rfl, rfl, HO, HBq⟩ := hrel
        obtain ⟨oa, oc, rfl⟩ := own_shape HO.out
        have XGq := XG2.bel HBq.out
        have XAq := XA.bel HBq.out
        have z1 : wr.cell? ⟨w.heap.size, 1, none⟩ = some (.slice (some ⟨b, off, none⟩) n1 c1) := XGq.cell 1 (by simp)
        have zl := XGq.lt
        by_cases hjn : j < n1
        · have hjl : j < g.roads.length := by rw [HE1.out]; exact hjn
          have hjI : (j : Int) < (n1 : Int) := by omega
          obtain ⟨b', off', f', e, hb', hxk⟩ := (t1.bel roadE (bel_step hBr (bel_step hBa HBq.out))).out hjl
          injection e with e
          injection e with e1 e2
          subst e1 e2
          obtain ⟨_, _, _, _, _, _, _, y0, y1, y2, y3, y4, y5⟩ := hxk j hjl
          obtain ⟨kf, Hkf⟩ : ∃ d, Hid (d = g.roads[j].fr) := ⟨_, (rfl : g.roads[j].fr = _)⟩
          obtain ⟨kt, Hkt⟩ : ∃ d, Hid (d = g.roads[j].to) := ⟨_, (rfl : g.roads[j].to = _)⟩
          obtain ⟨kw, Hkw⟩ : ∃ d, Hid (d = g.roads[j].way) := ⟨_, (rfl : g.roads[j].way = _)⟩
          obtain ⟨ki, Hki⟩ : ∃ d, Hid (d = g.roads[j].time) := ⟨_, (rfl : g.roads[j].time = _)⟩
          obtain ⟨kl, Hkl⟩ : ∃ d, Hid (d = g.roads[j].len) := ⟨_, (rfl : g.roads[j].len = _)⟩
          obtain ⟨kn, Hkn⟩ : ∃ d, Hid (d = g.roads[j].name) := ⟨_, (rfl : g.roads[j].name = _)⟩
          rw [← Hkf.out] at y0
          rw [← Hkt.out] at y1
          rw [← Hkw.out] at y2
          rw [← Hki.out] at y3
          rw [← Hkl.out] at y4
          rw [← Hkn.out] at y5
          have HBk : Hid (isBk g.roads k j = decide (kt = xf ∧ kw = xw)) := show isBk g.roads k j = decide (kt = xf ∧ kw = xw) by
            rw [isBk_at hkl hjl, Hkt.out, Hkw.out, Hxf.out, Hxw.out]
          have HST : Hid (bkN g.roads k (bgF g.roads (j + 1) true p) = (if kf = (p : Int) ∧ isBk g.roads k j = true then bkN g.roads k (bgF g.roads j true p) ++ [(j : Int)] else bkN g.roads k (bgF g.roads j true p)) ∧ goes g.roads k (bgF g.roads (j + 1) true p) = if kf = (p : Int) ∧ ¬ isBk g.roads k j = true then true else goes g.roads k (bgF g.roads j true p)) := show _ ∧ _ by
            rw [Hkf.out]; exact ⟨bkN_step hjl p, bkG_step hjl p⟩
          clear hxk
          obtain ⟨Wc, HWc⟩ : ∃ T, Hid (T = wr.alloc (.cells #[.int .i64 kf, .int .i64 kt, .int .i64 kw, .int .i64 ki, .int .i64 kl, .string kn] 72)) := ⟨_, (rfl : wr.alloc (.cells #[.int .i64 kf, .int .i64 kt, .int .i64 kw, .int .i64 ki, .int .i64 kl, .string kn] 72) = _)⟩
          have hBc : Bel wr Wc := by rw [HWc.out]; exact bel_alloc (Bel.refl _) _
          have XC : Blk Wc wr.heap.size [.int .i64 kf, .int .i64 kt, .int .i64 kw, .int .i64 ki, .int .i64 kl, .string kn] := by rw [HWc.out]; exact Blk.new wr [.int .i64 kf, .int .i64 kt, .int .i64 kw, .int .i64 ki, .int .i64 kl, .string kn] _
          have XAc := XAq.bel hBc
          have HBc : Hid (Bel Wa Wc) := bel_step HBq.out hBc
          have HOc : Hid (OwnI Wa.heap.size Wc (.slice oa (bkN g.roads k (bgF g.roads j true p)).length oc) (bkN g.roads k (bgF g.roads j true p))) := HO.out.kept (bel_none hBc) (Classical.em _)
          go_upto_region 14 with fail
          rw [← HWc.out]
          clear z1 zl y0 y1 y2 y3 y4 y5
          have u0 : Wc.cell? ⟨wr.heap.size, 0, none⟩ = some (.int .i64 kf) := XC.cell 0 (by simp)
          have u1 : Wc.cell? ⟨wr.heap.size, 1, none⟩ = some (.int .i64 kt) := XC.cell 1 (by simp)
          have u2 : Wc.cell? ⟨wr.heap.size, 2, none⟩ = some (.int .i64 kw) := XC.cell 2 (by simp)
          have ul := XC.lt
          have v0 : Wc.cell? ⟨Ba, 0, none⟩ = some (.int .i64 xf) := XAc.cell 0 (by simp)
          have v1 : Wc.cell? ⟨Ba, 1, none⟩ = some (.int .i64 p) := XAc.cell 1 (by simp)
          have v2 : Wc.cell? ⟨Ba, 2, none⟩ = some (.int .i64 xw) := XAc.cell 2 (by simp)
          have vl := XAc.lt
          by_cases h1 : kf = (p : Int)
          rotate_left
          · have HN : Hid (bkN g.roads k (bgF g.roads (j + 1) true p) = bkN g.roads k (bgF g.roads j true p) ∧ goes g.roads k (bgF g.roads (j + 1) true p) = goes g.roads k (bgF g.roads j true p)) := show _ ∧ _ by
              rw [HST.out.1, HST.out.2, if_neg (fun h => h1 h.1), if_neg (fun h => h1 h.1)]; exact ⟨rfl, rfl⟩
            have q1 : (kf != (p : Int)) = true := by simp [h1]
            clear h1
            go_wp2_with fail
            go_roundw
            case rel => exact ⟨j + 1, by omega, by go_num, by rw [HN.out.2], by rw [HN.out.1]; exact HOc, HBc⟩
            case measure => simp [intOf]; omega
          have q1 : (kf != (p : Int)) = false := by simp [h1]
          by_cases h2 : kt = xf ∧ kw = xw
          · have HN : Hid (bkN g.roads k (bgF g.roads (j + 1) true p) = bkN g.roads k (bgF g.roads j true p) ++ [(j : Int)] ∧ goes g.roads k (bgF g.roads (j + 1) true p) = goes g.roads k (bgF g.roads j true p)) := show _ ∧ _ by
              have hb2 : isBk g.roads k j = true := by rw [HBk.out]; exact decide_eq_true h2
              rw [HST.out.1, HST.out.2, if_pos ⟨h1, hb2⟩, if_neg (fun h => h.2 hb2)]; exact ⟨rfl, rfl⟩
            have q2 : (kt == xf) = true := by simp [h2.1]
            have q3 : (kw == xw) = true := by simp [h2.2]
            have hln := bkN_len g.roads k j p
            obtain ⟨i0, hi0, hz0, hz1, hz2⟩ := info_parts infoI
            have hown3 := World.ownsRow.alloc HOc.out (.cells #[.int .i64 (j : Int)] 2)
            have hBa3 := bel_alloc HBc.out (.cells #[.int .i64 (j : Int)] 2)
            have hszw := HBc.out.out.size
            have hszb := hBb.out.size
            clear h1 h2
            go_wp2_with (first
              | (at_builtin; refine wpList_append_own _ rfl _ _ 48 rfl Wa.heap.size 2 i0 (.int .i64 0) 1 8 Try.underlying48 hi0 hz0 hz1 hz2 rfl (by decide) _ _ _ rfl hown3 ⟨Wc.heap.size, 0, none⟩ 1 1 [.int .i64 (j : Int)] rfl rfl ?c1 ?c2 ?c3 ?c4 ?c5 ?_)
              | go_in)
            case c2 => rfl
            case c3 => unfold maxLen; omega
            case c4 => omega
            case c5 => omega
            intro v' w3 hown' hgrow _
            have HO3 : Hid (OwnI Wa.heap.size w3 v' (bkN g.roads k (bgF g.roads (j + 1) true p))) := by rw [HN.out.1]; exact own_add hown'
            have hB3 : Bel Wa w3 := bel_grow hBa3 hgrow (fun j e => (hown3.lt j e).1)
            clear hown' hgrow hown3 hBa3
            go_wp2
            go_roundw
            case rel => exact ⟨j + 1, by omega, by go_num, by rw [HN.out.2], HO3, hB3⟩
            case measure => simp [intOf]; omega
          · have HN : Hid (bkN g.roads k (bgF g.roads (j + 1) true p) = bkN g.roads k (bgF g.roads j true p) ∧ goes g.roads k (bgF g.roads (j + 1) true p) = true) := show _ ∧ _ by
              have hb2 : ¬ isBk g.roads k j = true := by rw [HBk.out, decide_eq_true_eq]; exact h2
              rw [HST.out.1, HST.out.2, if_neg (fun h => hb2 h.2), if_pos ⟨h1, hb2⟩]; exact ⟨rfl, rfl⟩
            by_cases h3 : kt = xf
            · have q2 : (kt == xf) = true := by simp [h3]
              have q3 : (kw == xw) = false := by simp; exact fun h => h2 ⟨h3, h⟩
              clear h1 h2 h3
              go_wp2_with fail
              go_roundw
              case rel => exact ⟨j + 1, by omega, by go_num, by rw [HN.out.2], by rw [HN.out.1]; exact HOc, HBc⟩
              case measure => simp [intOf]; omega
            · have q2 : (kt == xf) = false := by simp [h3]
              clear h1 h2 h3
              go_wp2_with fail
              go_roundw
              case rel => exact ⟨j + 1, by omega, by go_num, by rw [HN.out.2], by rw [HN.out.1]; exact HOc, HBc⟩
              case measure => simp [intOf]; omega
        · obtain rfl : n1 = j := by omega
          obtain ⟨bk, Hbk⟩ : ∃ l, Hid (l = bkN g.roads k (bgF g.roads n1 true p)) := ⟨_, (rfl : bkN g.roads k (bgF g.roads n1 true p) = _)⟩
          obtain ⟨gg, Hgg⟩ : ∃ l, Hid (l = goes g.roads k (bgF g.roads n1 true p)) := ⟨_, (rfl : goes g.roads k (bgF g.roads n1 true p) = _)⟩
          obtain ⟨mk, Hmk⟩ : ∃ l, Hid (bk.length = l) := ⟨_, (rfl : bk.length = _)⟩
          have hmk : mk ≤ 8000 := by rw [← Hmk.out, Hbk.out]; exact Nat.le_trans (bkN_len _ _ _ _) m1
          have HIN : Hid (∀ y ∈ bk, In64 y) := (by
            intro y hy
            rw [Hbk.out] at hy
            have := bkN_in hy
            unfold In64; omega : ∀ y ∈ bk, In64 y)
          rw [← Hbk.out, ← Hgg.out] at HNS
          rw [← Hbk.out] at HO ⊢
          rw [← Hgg.out]
          have hO2 : wr.ownsRow Wa.heap.size 2 1 (.slice oa bk.length oc) bk.length (intsV bk) := HO.out
          rw [Hmk.out] at hO2 ⊢
          have hbO := bel_step hBa HBq.out
          obtain ⟨Ls, HLs⟩ : ∃ f : Nat → List BanD, Hid (∀ t, f t = ((bk.take t).map fun (t : Int) => (⟨(k : Int), t⟩ : BanD)).foldl capB (nsF g.roads n1 g.bans k)) := ⟨_, ((fun _ => rfl) : ∀ t : Nat, (fun t => ((bk.take t).map fun (t : Int) => (⟨(k : Int), t⟩ : BanD)).foldl capB (nsF g.roads n1 g.bans k)) t = ((bk.take t).map fun (t : Int) => (⟨(k : Int), t⟩ : BanD)).foldl capB (nsF g.roads n1 g.bans k))⟩
          have HL0 : Hid (Ls 0 = nsF g.roads n1 g.bans k) := (by rw [HLs.out]; rfl : Ls 0 = nsF g.roads n1 g.bans k)
          have HLe : Hid (gg = true → nsF g.roads n1 g.bans (k + 1) = Ls mk) := (fun h => by
            rw [HNS.out, if_pos h, HLs.out, List.take_of_length_le (by rw [Hmk.out]; exact Nat.le_refl _)] : gg = true → nsF g.roads n1 g.bans (k + 1) = Ls mk)
          have HLz : Hid (gg = false → nsF g.roads n1 g.bans (k + 1) = nsF g.roads n1 g.bans k) := (fun h => by
            rw [HNS.out, if_neg (by rw [h]; decide)] : gg = false → nsF g.roads n1 g.bans (k + 1) = nsF g.roads n1 g.bans k)
          have HLst : Hid (∀ t (h : t < bk.length), Ls (t + 1) = capB (Ls t) ⟨k, bk[t]⟩) := (fun t h => by
            rw [HLs.out, HLs.out, List.take_succ_eq_append_getElem h, List.map_append, List.foldl_append]; rfl : ∀ t (h : t < bk.length), Ls (t + 1) = capB (Ls t) ⟨k, bk[t]⟩)
          have HLov : Hid (∀ t, ¬ (Ls t).length ≤ 2000 → Ls mk = Ls t ∨ mk < t) := (fun t h => by
            by_cases ht : t ≤ mk
            · left
              rw [HLs.out mk, List.take_of_length_le (by rw [Hmk.out]; exact Nat.le_refl _)]
              conv => lhs; rw [← List.take_append_drop t bk, List.map_append, List.foldl_append, ← HLs.out t]
              exact fold_cap_no _ h
            · right; omega : ∀ t, ¬ (Ls t).length ≤ 2000 → Ls mk = Ls t ∨ mk < t)
          rw [← HL0.out] at HRr
          go_wp2_with fail
          clear z1 zl
          go_loopw [10] (fun i wq => ∃ (t : Nat) (a : Option Addr) (n c : Nat) (bs : List Nat), t ≤ mk ∧ i = .int .i64 t ∧ n ≤ 2000 ∧ (gg = false → t = 0) ∧ Hid (BRow Z A2 C2 d2 wq (Ls t) a n c bs) ∧ Hid (Blk wq w1.heap.size [.slice A0 n0 C0, .slice A1 n1 C1, .slice a n c]) ∧ Hid (Bel w1 wq) ∧ Hid (Z.heap.size ≤ wq.heap.size) ∧ Hid (wq.ownsRow Wa.heap.size 2 1 (.slice oa mk oc) mk (intsV bk))) (fun i _ => mk - (intOf i).toNat)
          case atStart => exact ⟨0, a, n, c, bs, Nat.zero_le _, rfl, hn, fun _ => rfl, HRr.out.bel hbO, HXO.out.bel hbO, bel_step HB.out hbO, Nat.le_trans Hs.out hbO.out.size, hO2⟩
          case round =>
            clear HRr HXO HB Hs hn hBr XGr hBa hBb XG2 XA hO2 hbO HO HBq XGq XAq O0
            obtain ⟨t, a, n, c, bs, ht, rfl, hn, hg0, HRr, HXO, HB, Hs, HO⟩ := hrel
            have hBr : Bel w wr := bel_step hb0w1 HB.out
            have x0 : wr.cell? ⟨w1.heap.size, 0, none⟩ = some (.slice A0 n0 C0) := HXO.out.cell 0 (by simp)
            have x1 : wr.cell? ⟨w1.heap.size, 1, none⟩ = some (.slice A1 n1 C1) := HXO.out.cell 1 (by simp)
            have x2 : wr.cell? ⟨w1.heap.size, 2, none⟩ = some (.slice a n c) := HXO.out.cell 2 (by simp)
            have xl := HXO.out.lt
            by_cases htm : t < mk
            rotate_left
            · obtain rfl : mk = t := by omega
              have HNx : Hid (nsF g.roads n1 g.bans (k + 1) = Ls mk) := (by
                cases hgg : gg with
                | true => exact HLe.out hgg
                | false => rw [HLz.out hgg, hg0 hgg, HL0.out] : nsF g.roads n1 g.bans (k + 1) = Ls mk)
              clear x0 x1 x2 xl
              go_wp2_with fail
              go_roundw
              case rel => exact ⟨k + 1, a, n, c, bs, by omega, by go_num, hn, by rw [HNx.out]; exact HRr, HXO, HB, Hs⟩
              case measure => simp [intOf]; omega
            have htI : (t : Int) < (mk : Int) := by omega
            cases hgg : gg with
            | false =>
              have ht0 := hg0 hgg
              subst ht0
              have HNx : Hid (nsF g.roads n1 g.bans (k + 1) = Ls 0) := (by rw [HLz.out hgg, HL0.out] : nsF g.roads n1 g.bans (k + 1) = Ls 0)
              clear x0 x1 x2 xl
              go_wp2_with fail
              go_roundw
              case rel => exact ⟨k + 1, a, n, c, bs, by omega, by go_num, hn, by rw [HNx.out]; exact HRr, HXO, HB, Hs⟩
              case measure => simp [intOf]; omega
            | true =>
              have htl : t < bk.length := by rw [Hmk.out]; exact htm
              obtain ⟨_, _, hvs⟩ := own_some HO.out (by omega)
              obtain ⟨gb, rfl⟩ : ∃ gb, oa = some ⟨gb, 0, none⟩ := by injection hvs with hva _ _; exact ⟨_, hva⟩
              clear hvs
              have hgb := HO.out.lt gb rfl
              obtain ⟨y, Hy⟩ : ∃ y, Hid (y = bk[t]) := ⟨_, (rfl : bk[t] = _)⟩
              have hcell : ∀ w' : World, w'.ownsRow Wa.heap.size 2 1 (.slice (some ⟨gb, 0, none⟩) mk oc) mk (intsV bk) → w'.cell? ⟨gb, t, none⟩ = some (.int .i64 y) := fun w' h => by
                rw [h.cellAt t (by omega)]
                unfold intsV
                rw [List.getElem?_map, List.getElem?_eq_getElem htl, Hy.out]; rfl
              have hin : In64 (k : Int) ∧ In64 y := ⟨by unfold In64; omega, by rw [Hy.out]; exact HIN.out _ (List.getElem_mem htl)⟩
              have hS : ∀ w', Bel wr w' → w'.cell? ⟨gb, t, none⟩ = some (.int .i64 y) := fun w' h => hcell w' (HO.out.kept (bel_none h) (Classical.em _))
              have HST : Hid (Ls (t + 1) = addB (Ls t) ⟨k, y⟩) := (by rw [HLst.out t htl, Hy.out, capB_yes (by rw [HRr.out.len]; exact hn)] : Ls (t + 1) = addB (Ls t) ⟨k, y⟩)
              go_wp2_with fail
              refine wp_region_noPanic ?_
              refine wp_region_held_drew (S := fun w' => w'.cell? ⟨gb, t, none⟩ = some (.int .i64 y)) (by kernel_rfl) (hS _ (Bel.drew (Bel.refl _))) (fun hHeld => ?_)
              have hY0 : Bel wr wr.drew := Bel.drew (Bel.refl _)
              generalize wr.drew = Y at hHeld hY0 ⊢
              have HOY : Hid (Y.ownsRow Wa.heap.size 2 1 (.slice (some ⟨gb, 0, none⟩) mk oc) mk (intsV bk)) := HO.out.kept (bel_none hY0) (Classical.em _)
              have HR1 := HRr.out.bel hY0
              have XO1 := HXO.out.bel hY0
              have hB1Y := bel_step HB.out hY0
              have hs1Y := Nat.le_trans Hs.out hY0.out.size
              have v2 : Y.cell? ⟨w1.heap.size, 2, none⟩ = some (.slice a n c) := XO1.cell 2 (by simp)
              have vl := XO1.lt
              refine tk 2 hHeld ?_; refine tk 3 hHeld ?_; refine tk 4 hHeld ?_; refine tk 5 hHeld ?_; refine tk 6 hHeld ?_; refine tk 7 hHeld ?_; refine tk 0 hHeld ?_
              refine rd1 1 (fun K hK => ?_)
              go_simp
              go_wp2_with fail
              refine hK.out _ _ hHeld (fun hHeld' => ?_)
              clear hK K hHeld
              have hHeld := hHeld'
              clear hHeld'
              refine rd1 8 (fun K hK => ?_)
              go_simp
              refine (addBan_any a n c (Ls t) bs k y Y HR1.row HR1.len (by omega) HR1.srt hin.1 hin.2 HR1.cap).mono ?_
              intro e w4 hA
              obtain ⟨a', n', c', bs', rfl, HR4, hb4⟩ := HR1.add hs1Y hA
              rw [← HST.out] at HR4
              have XO4 := XO1.bel hb4
              have hB4 := bel_step hB1Y hb4
              have hs4 := Nat.le_trans hs1Y hb4.out.size
              have hO4 := HOY.out.kept (bel_none hb4) (Classical.em _)
              clear v2 vl x0 x1 x2 xl hS
              go_wp2_with fail
              refine hK.out _ _ (hcell _ hO4) (fun hHeld' => ?_)
              clear hK K hHeld
              have hHeld := hHeld'
              clear hHeld'
              have v2 : w4.cell? ⟨w1.heap.size, 2, none⟩ = some (.slice a n c) := XO4.cell 2 (by simp)
              have g2 := XO4.free 2
              have vl := XO4.lt
              have hB5 : Bel w1 (w4.setCell ⟨w1.heap.size, 2, none⟩ (.slice a' n' c')) := bel_set hB4 (Nat.le_refl _) _
              have XO5 : Blk (w4.setCell ⟨w1.heap.size, 2, none⟩ (.slice a' n' c')) w1.heap.size [.slice A0 n0 C0, .slice A1 n1 C1, .slice a' n' c'] := XO4.set 2 (.slice a' n' c') (by simp)
              have HR5 := HR4.set hsZ.out hnd2.out 2 (.slice a' n' c')
              have hs5 : Z.heap.size ≤ (w4.setCell ⟨w1.heap.size, 2, none⟩ (.slice a' n' c')).heap.size := by simpa [World.setCell] using hs4
              have hO5 : (w4.setCell ⟨w1.heap.size, 2, none⟩ (.slice a' n' c')).ownsRow Wa.heap.size 2 1 (.slice (some ⟨gb, 0, none⟩) mk oc) mk (intsV bk) := hO4.kept (setCell_grown w4 w1.heap.size 2 (.slice a' n' c')) (.inr (fun e => by injection e with e; have := hgb.1; have e : gb = w1.heap.size := e; omega))
              obtain ⟨w5, HW5⟩ : ∃ w5, Hid (w5 = w4.setCell ⟨w1.heap.size, 2, none⟩ (.slice a' n' c')) := ⟨_, (rfl : w4.setCell ⟨w1.heap.size, 2, none⟩ (.slice a' n' c') = _)⟩
              rw [← HW5.out] at hB5 XO5 HR5 hs5 hO5
              refine tk 9 hHeld ?_
              refine rd1 10 (fun K hK => ?_)
              go_simp
              go_wp2_with fail
              rw [← HW5.out]
              refine hK.out _ _ (hcell _ hO5) (fun hHeld' => ?_)
              clear hK K hHeld
              refine wpAnyH_done (by kernel_rfl) ?_ _
              refine NoPanic.normal ?_
              clear hHeld' v2 vl g2
              have v2 : w5.cell? ⟨w1.heap.size, 2, none⟩ = some (.slice a' n' c') := XO5.cell 2 (by simp)
              have vl := XO5.lt
              by_cases hn' : n' ≤ 2000
              · have hnI : ¬ (2000 : Int) < (n' : Int) := by omega
                go_wp2_with fail
                go_roundw
                case rel => exact ⟨t + 1, a', n', c', bs', by omega, by go_num, hn', fun h => Bool.noConfusion h, HR5, XO5, hB5, hs5, hO5⟩
                case measure => simp [intOf]; omega
              · have hnI : (2000 : Int) < (n' : Int) := by omega
                have HF' : Hid (R = ⟨[], [], []⟩) := (by
                  have h1 : ¬ (Ls (t + 1)).length ≤ 2000 := by rw [HR5.len]; exact hn'
                  have h2 : Ls mk = Ls (t + 1) := (HLov.out (t + 1) h1).elim id (fun h => by omega)
                  have h3 : nsF g.roads n1 g.bans (k + 1) = Ls (t + 1) := by rw [HLe.out hgg, h2]
                  have h4 := nsF_stay (rs := g.roads) (n := n1) (B := g.bans) (i := k + 1) (by rw [h3]; exact h1) (n1 - (k + 1))
                  rw [Nat.add_sub_cancel' (by omega), h3] at h4
                  rw [HF.out, h4]
                  unfold tldQ
                  exact if_neg h1 : R = ⟨[], [], []⟩)
                have XRr := XR1.bel hB5
                have hB05 := bel_step hb0w1 hB5
                have r0 : w5.cell? ⟨w.heap.size + 1, 0, none⟩ = some (.slice none 0 0) := XRr.cell 0 (by simp)
                have r1 : w5.cell? ⟨w.heap.size + 1, 1, none⟩ = some (.slice none 0 0) := XRr.cell 1 (by simp)
                have r2 : w5.cell? ⟨w.heap.size + 1, 2, none⟩ = some (.slice none 0 0) := XRr.cell 2 (by simp)
                have f0 := XRr.free 0
                have f1 := XRr.free 1
                have f2 := XRr.free 2
                have rl := XRr.lt
                obtain ⟨s0, s1, s2, hBX⟩ := zer_end XRr hB05
                have HX : Hid (zerW w w5 = ((w5.setCell ⟨w.heap.size + 1, 0, none⟩ (.slice none 0 0)).setCell ⟨w.heap.size + 1, 1, none⟩ (.slice none 0 0)).setCell ⟨w.heap.size + 1, 2, none⟩ (.slice none 0 0)) := (rfl : zerW w w5 = _)
                generalize zerW w w5 = X at s0 s1 s2 hBX HX
                go_wp2_with fail
                rw [← HX.out]
                refine bodyPost_ret (v := .agg #[.slice none 0 0, .slice none 0 0, .slice none 0 0]) (by simp [results, Try.results16, go_sem, s0, s1, s2]) rfl ⟨_, [], rfl, ?_, Fresh.nil _ _, hBX⟩
                rw [HF'.out]
                exact ⟨none, 0, none, 0, none, 0, [], [], [], rfl, rfl, Sl.nil, Sl.nil, Sl.nil⟩
    · obtain rfl : n1 = k := by omega
      have XRr := XR1.bel HB.out
      have r0 : wr.cell? ⟨w.heap.size + 1, 0, none⟩ = some (.slice none 0 0) := XRr.cell 0 (by simp)
      have r1 : wr.cell? ⟨w.heap.size + 1, 1, none⟩ = some (.slice none 0 0) := XRr.cell 1 (by simp)
      have r2 : wr.cell? ⟨w.heap.size + 1, 2, none⟩ = some (.slice none 0 0) := XRr.cell 2 (by simp)
      have f0 := XRr.free 0
      have f1 := XRr.free 1
      have f2 := XRr.free 2
      have rl := XRr.lt
      have HF' : Hid (R = ⟨g.places, g.roads, nsF g.roads n1 g.bans n1⟩) := (by rw [HF.out]; unfold tldQ; rw [if_pos (by rw [HRr.out.len]; exact hn)] : R = ⟨g.places, g.roads, nsF g.roads n1 g.bans n1⟩)
      have hd : ∀ x ∈ d0 ++ (d1 ++ d2), x ≠ w.heap.size + 1 := fun x hx e => by have := (hF1.new x hx).1; have := hBU.out.size; omega
      have hn0 : w.heap.size + 1 ∉ d0 := fun h => hd _ (List.mem_append.2 (.inl h)) rfl
      have hn1 : w.heap.size + 1 ∉ d1 := fun h => hd _ (List.mem_append.2 (.inr (List.mem_append.2 (.inl h)))) rfl
      have hn2 : w.heap.size + 1 ∉ d2 := fun h => hd _ (List.mem_append.2 (.inr (List.mem_append.2 (.inr h)))) rfl
      have hsz1 : w.heap.size + 1 < Z.heap.size := by have := hsZ.out; omega
      have FE := fresh_row hF1 HB.out (Nat.le_of_lt hsZ.out) (Nat.le_trans hb1.out.size (Nat.le_of_lt hsZ.out)) (HRr.out.own.imp (fun h => h.2.2) id)
      obtain ⟨X, HX⟩ : ∃ X, Hid (X = ((wr.setCell ⟨w.heap.size + 1, 0, none⟩ (.slice A0 n0 C0)).setCell ⟨w.heap.size + 1, 1, none⟩ (.slice A1 n1 C1)).setCell ⟨w.heap.size + 1, 2, none⟩ (.slice a n c)) := ⟨_, (rfl : ((wr.setCell ⟨w.heap.size + 1, 0, none⟩ (.slice A0 n0 C0)).setCell ⟨w.heap.size + 1, 1, none⟩ (.slice A1 n1 C1)).setCell ⟨w.heap.size + 1, 2, none⟩ (.slice a n c) = _)⟩
      have al : ∀ ds : List Nat, w.heap.size + 1 ∉ ds → (∀ x ∈ ds, x < wr.heap.size) → Alike wr X ds := fun ds hd hl => by rw [HX.out]; exact (((Alike.refl hl).set hd _ _).set hd _ _).set hd _ _
      have T0r := T0.bel spotE HB.out
      have T1r := T1.bel roadE HB.out
      have HRX : Hid (BRow Z A2 C2 d2 X (nsF g.roads n1 g.bans n1) a n c bs) := (by rw [HX.out]; exact ((HRr.out.set hsz1 hn2 0 _).set hsz1 hn2 1 _).set hsz1 hn2 2 _ : BRow Z A2 C2 d2 X (nsF g.roads n1 g.bans n1) a n c bs)
      have HXv : Hid (GphV X (.agg #[.slice A0 n0 C0, .slice A1 n1 C1, .slice a n c]) R (d0 ++ (d1 ++ bs))) := (by
        rw [HF'.out]
        exact ⟨A0, C0, A1, C1, a, c, d0, d1, bs, rfl, by show _ = Value.agg #[.slice A0 g.places.length C0, .slice A1 g.roads.length C1, .slice a (nsF g.roads n1 g.bans n1).length c]; rw [H0.out, H1.out, HRX.out.len], T0r.alike spotE (al d0 hn0 (T0r.lt spotE)), T1r.alike roadE (al d1 hn1 (T1r.lt roadE)), HRX.out.row⟩ : GphV X (.agg #[.slice A0 n0 C0, .slice A1 n1 C1, .slice a n c]) R (d0 ++ (d1 ++ bs)))
      have HXF : Hid (Fresh w X (d0 ++ (d1 ++ bs))) := (by
        rw [HX.out]
        exact ⟨FE.nd, fun x hx => ⟨Nat.le_trans hB0U.out.size (FE.new x hx).1, by simpa [World.setCell] using (FE.new x hx).2⟩, fun x hx j => by rw [World.frozen?_setCell, World.frozen?_setCell, World.frozen?_setCell]; exact FE.free x hx j⟩ : Fresh w X (d0 ++ (d1 ++ bs)))
      have HXB : Hid (Bel w X) := (by rw [HX.out]; exact bel_set (bel_set (bel_set hBr hlo _) hlo _) hlo _ : Bel w X)
      have XRX : Blk X (w.heap.size + 1) [.slice A0 n0 C0, .slice A1 n1 C1, .slice a n c] := by rw [HX.out]; exact ((XRr.set 0 _ (by simp)).set 1 _ (by simp)).set 2 _ (by simp)
      have u0 := XRX.cell 0 (by simp)
      have u1 := XRX.cell 1 (by simp)
      have u2 := XRX.cell 2 (by simp)
      simp only [List.getElem_cons_zero, List.getElem_cons_succ] at u0 u1 u2
      clear al T0r T1r FE XRX hd
      have x0 : wr.cell? ⟨w1.heap.size, 0, none⟩ = some (.slice A0 n0 C0) := HXO.out.cell 0 (by simp)
      have x1 : wr.cell? ⟨w1.heap.size, 1, none⟩ = some (.slice A1 n1 C1) := HXO.out.cell 1 (by simp)
      have x2 : wr.cell? ⟨w1.heap.size, 2, none⟩ = some (.slice a n c) := HXO.out.cell 2 (by simp)
      have xl := HXO.out.lt
      go_wp2_with fail
      rw [← HX.out]
      exact bodyPost_ret (v := .agg #[.slice A0 n0 C0, .slice A1 n1 C1, .slice a n c]) (by simp [results, Try.results16, go_sem, u0, u1, u2]) rfl ⟨_, d0 ++ (d1 ++ bs), rfl, HXv.out, HXF.out, HXB.out⟩
end Go.Proofs.Ytiagdabikbjbiaa
