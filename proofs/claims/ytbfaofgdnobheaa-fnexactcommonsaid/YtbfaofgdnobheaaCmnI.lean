/-
  What two lists of Roads have in common, in the program: contracts.
-/
import Derived.Test.YtbfaofgdnobheaaGphC
import Derived.Test.YtbfaofgdnobheaaCmnM
import Derived.Deep.OwnRows
namespace Go.Proofs.Ytbfaofgdnobheaa
open Go.RowKit Go.Maps

theorem infoBc : (Try.prog.info? 4).map (fun i => (i.zero, i.size, i.bytes)) = some (some (.bool false), 1, 1) := by kernel_rfl
theorem int_c {w : World} {b off : Nat} {l : List Int} {bs : List Nat} (h : Ints w (some ⟨b, off, none⟩) l bs) {k : Nat} (hk : k < l.length) : b < w.heap.size ∧ w.cell? ⟨b, off + k, none⟩ = some (.int .i64 l[k]) := by
  obtain ⟨b', off', f, e, hb, hx⟩ := h.out hk
  injection e with e
  injection e with e1 e2
  subst e1 e2
  have := (hx k hk).2.2
  rw [Nat.mul_one] at this
  exact ⟨hb, this⟩
theorem road_c {w : World} {b off : Nat} {g : GraphD} {bs : List Nat} (h : RoadL w (some ⟨b, off, none⟩) g.roads bs) {i : Nat} (hi : i < g.roads.length) :
    w.cell? ⟨b, off + i * 6, none⟩ = some (.int .i64 (rdX g i).fr) ∧ w.cell? ⟨b, off + i * 6 + 1, none⟩ = some (.int .i64 (rdX g i).to) ∧ w.cell? ⟨b, off + i * 6 + 2, none⟩ = some (.int .i64 (rdX g i).way) ∧ w.cell? ⟨b, off + i * 6 + 3, none⟩ = some (.int .i64 (rdX g i).time) ∧ w.cell? ⟨b, off + i * 6 + 4, none⟩ = some (.int .i64 (rdX g i).len) ∧ w.cell? ⟨b, off + i * 6 + 5, none⟩ = some (.string (rdX g i).name) := by
  obtain ⟨b', off', f, e, _, hx⟩ := h.out hi
  injection e with e
  injection e with e1 e2
  subst e1 e2
  rw [rdX_eq hi]
  obtain ⟨_, _, _, _, _, _, _, y0, y1, y2, y3, y4, y5⟩ := hx i hi
  exact ⟨y0, y1, y2, y3, y4, y5⟩
theorem row_b {w w' : World} {b : Nat} {t : TypeId} {n : Nat} {f : Nat → Value} (h : w.rowIs b t n f) (hb : Bel w w') : w'.rowIs b t n f := h.of_block (hb.out.block b h.lt)

set_option maxRecDepth 100000 in
set_option maxHeartbeats 2000000 in
theorem allI_any (B n0 : Nat) (a0 : Option Addr) (c0 : Nat) (a1 : Option Addr) (n1 c1 : Nat) (a2 : Option Addr) (n2 c2 : Nat) (a : Option Addr) (n c : Nat) (l : List Int) (bs : List Nat) (w : World) (hX : Blk w B [.slice a0 n0 c0, .slice a1 n1 c1, .slice a2 n2 c2]) (hT : Ints w a l bs) (hn : l.length = n) (hm : n ≤ 1048576) :
    Calls Try.prog 86 #[.slice a n c, .func (.func 87) #[] #[.pointer (some ⟨B, 0, none⟩)]] w fun e w' => e = .returned (.bool (rdsB n1 l)) ∧ Bel w w' := by
  have Hn : Hid (l.length = n) := hn
  clear hn
  have cB : ∀ (x : Int) (r : Bool) (wr : World), Bel w wr → inN n1 x = r → Calls Try.prog 87 #[.int .i64 x, .pointer (some ⟨B, 0, none⟩)] wr fun e w' => e = .returned (.bool r) ∧ w' = wr := by
    intro x r wr hb hr
    have hY := hX.bel hb
    have y1 : wr.cell? ⟨B, 1, none⟩ = some (.slice a1 n1 c1) := hY.cell 1 (by simp)
    have yl := hY.lt
    clear hY hX
    go_enter Try.func87, Try.ntmps87
    go_wp2_with fail
    refine (inRoad_r _ _ _ _ r _ hr).mono ?_
    rintro e w1 ⟨rfl, rfl⟩
    go_wp2
    go_ret
    exact ⟨rfl, rfl⟩
  go_enter Try.func86, Try.ntmps86
  go_wp2
  go_loopw [6, 9] (fun _ i wr => ∃ k : Nat, k ≤ n ∧ i = .int .i64 k ∧ (∀ j (h : j < l.length), j < k → inN n1 l[j] = true) ∧ Bel w wr) (fun _ i _ => n - (intOf i).toNat)
  case atStart => exact ⟨0, Nat.zero_le _, rfl, fun j _ hj => absurd hj (Nat.not_lt_zero _), Bel.refl _⟩
  case round =>
    obtain ⟨k, hk, rfl, hall, hbel⟩ := hrel
    have H : Hid (∀ j (h : j < l.length), j < k → inN n1 l[j] = true) := hall
    clear hall
    by_cases hlt : k < n
    · have hkl : k < l.length := by rw [Hn.out]; exact hlt
      obtain ⟨b, off, f, rfl, hb, _⟩ := (hT.bel intE hbel).out hkl
      have hc := (int_c (hT.bel intE hbel) hkl).2
      obtain ⟨d, Hd⟩ : ∃ d, Hid (d = l[k]) := ⟨_, (rfl : l[k] = _)⟩
      rw [← Hd.out] at hc
      clear hT
      rcases Bool.eq_false_or_eq_true (inN n1 d) with hf | hf
      · have HA : Hid (inN n1 l[k] = true) := by rw [← Hd.out]; exact hf
        go_wp2_with fail
        refine (cB d true _ hbel hf).mono ?_
        rintro e w1 ⟨rfl, rfl⟩
        clear hc hb
        go_wp2
        go_roundw
        case rel => exact ⟨k + 1, by omega, by go_num, fun j h hj => by
                        (by_cases e : j = k)
                        · subst e; exact HA.out
                        · exact H.out j h (by omega), hbel⟩
        case measure => simp [intOf]; omega
      · have HF : Hid (false = rdsB n1 l) := (rdsB_no hkl (by rw [← Hd.out]; exact hf)).symm
        go_wp2_with fail
        refine (cB d false _ hbel hf).mono ?_
        rintro e w1 ⟨rfl, rfl⟩
        clear hc hb
        go_wp2
        go_ret
        exact ⟨ret_bl HF.out, hbel⟩
    · have HT : Hid (true = rdsB n1 l) := (rdsB_yes fun i h => H.out i h (by rw [Hn.out] at h; omega)).symm
      go_wp2
      go_ret
      exact ⟨ret_bl HT.out, hbel⟩

set_option maxRecDepth 100000 in
set_option maxHeartbeats 1000000 in
theorem hasRoads_r (a0 : Option Addr) (n0 c0 : Nat) (a1 : Option Addr) (n1 c1 : Nat) (a2 : Option Addr) (n2 c2 : Nat) (a : Option Addr) (n c : Nat) (l : List Int) (bs : List Nat) (r : Bool) (w : World) (hT : Ints w a l bs) (hn : l.length = n) (hm : n ≤ 1048576) (hr : rdsB n1 l = r) :
    Calls Try.prog 44 #[gphV a0 n0 c0 a1 n1 c1 a2 n2 c2, .slice a n c] w fun e w' => e = .returned (.bool r) ∧ Bel w w' := by
  have X0 : Blk (w.alloc (.cells #[.slice a0 n0 c0, .slice a1 n1 c1, .slice a2 n2 c2] 40)) w.heap.size [.slice a0 n0 c0, .slice a1 n1 c1, .slice a2 n2 c2] := Blk.new w [.slice a0 n0 c0, .slice a1 n1 c1, .slice a2 n2 c2] _
  have hB0 : Bel w (w.alloc (.cells #[.slice a0 n0 c0, .slice a1 n1 c1, .slice a2 n2 c2] 40)) := bel_alloc (Bel.refl _) _
  go_enter Try.func44, Try.ntmps44
  go_wp2_with fail
  refine (allI_any _ n0 a0 c0 a1 n1 c1 a2 n2 c2 _ _ _ l bs _ X0 (hT.bel intE hB0) hn hm).mono ?_
  rintro e w1 ⟨rfl, hb1⟩
  rw [hr]
  have hB1 := bel_step hB0 hb1
  clear X0
  go_wp2
  go_ret
  exact ⟨rfl, hB1⟩

set_option maxRecDepth 100000 in
set_option maxHeartbeats 4000000 in
theorem commonG_any (a0 : Option Addr) (n0 c0 : Nat) (a1 : Option Addr) (n1 c1 : Nat) (a2 : Option Addr) (n2 c2 : Nat) (g : GraphD) (b1 : List Nat) (ar : Option Addr) (m cr : Nat) (l : List Int) (br : List Nat) (au : Option Addr) (p cu : Nat) (u : List Int) (bu : List Nat) (w : World) (t1 : RoadL w a1 g.roads b1) (e1 : g.roads.length = n1) (hP : graphP g) (hI : Ints w ar l br) (hl : l.length = m) (hm : m ≤ 1048576) (hJ : Ints w au u bu) (hu : u.length = p) (hp : p ≤ 1048576) (hA : rdsB n1 l = true) (hB : rdsB n1 u = true) :
    Calls Try.prog 45 #[gphV a0 n0 c0 a1 n1 c1 a2 n2 c2, .slice ar m cr, .slice au p cu] w fun e w' => e = .returned (.int .i64 (cmS (fun i => (rdX g i).time) (hasT l m) u n1 p)) ∧ Bel w w' := by
  have H1 : Hid (g.roads.length = n1) := e1
  have HL : Hid (l.length = m) := hl
  have HU : Hid (u.length = p) := hu
  have HP : Hid (graphP g) := hP
  have HA : Hid (rdsB n1 l = true) := hA
  have HB : Hid (rdsB n1 u = true) := hB
  have m1 : n1 ≤ 8000 := by rw [← e1]; exact hP.1.2.1
  clear e1 hl hu hP hA hB
  obtain ⟨W, HW⟩ : ∃ W, Hid (W = w.alloc (.cells #[.slice a0 n0 c0, .slice a1 n1 c1, .slice a2 n2 c2] 40)) := ⟨_, (rfl : w.alloc (.cells #[.slice a0 n0 c0, .slice a1 n1 c1, .slice a2 n2 c2] 40) = _)⟩
  have hBW : Bel w W := by rw [HW.out]; exact bel_alloc (Bel.refl _) _
  have XG : Blk W w.heap.size [.slice a0 n0 c0, .slice a1 n1 c1, .slice a2 n2 c2] := by rw [HW.out]; exact Blk.new w [.slice a0 n0 c0, .slice a1 n1 c1, .slice a2 n2 c2] _
  have x1 : W.cell? ⟨w.heap.size, 1, none⟩ = some (.slice a1 n1 c1) := XG.cell 1 (by simp)
  have xl := XG.lt
  have hmk := fun w' => run_make_row' (P := Try.prog) 109 4 (.bool false) 1 Try.underlying109 infoBc rfl .i64 .i64 n1 (by omega) (by omega) w'
  obtain ⟨V, HV⟩ : ∃ V, Hid (V = W.alloc (.cells (madeCells #[.bool false] n1) 4)) := ⟨_, (rfl : W.alloc (.cells (madeCells #[.bool false] n1) 4) = _)⟩
  have R0 : V.rowIs W.heap.size 4 n1 (fun j => .bool (hasT l 0 j)) := by
    rw [HV.out]
    exact (World.rowIs_made W (.bool false) n1 4).congr fun j _ => by rw [hasT_zero]
  have hBV : Bel W V := by rw [HV.out]; exact bel_alloc (Bel.refl _) _
  go_enter Try.func45, Try.ntmps45
  go_upto_region 1 with fail
  rw [← HW.out]
  go_wp2
  rw [← HV.out]
  clear hmk x1
  go_loopw [9, 19] (fun _ i wr => ∃ k : Nat, k ≤ m ∧ i = .int .i64 k ∧ wr.rowIs W.heap.size 4 n1 (fun j => .bool (hasT l k j)) ∧ Bel W wr) (fun _ i _ => m - (intOf i).toNat)
  case atStart => exact ⟨0, Nat.zero_le _, rfl, R0, hBV⟩
  case round =>
    clear R0 hBV HV
    obtain ⟨k, hk, rfl, hr, hBr⟩ := hrel
    by_cases hlt : k < m
    · have hkl : k < l.length := by rw [HL.out]; exact hlt
      obtain ⟨i, hi, ei⟩ := rdsB_at HA.out hkl
      obtain ⟨b, off, f, rfl, hb, _⟩ := (hI.bel intE (bel_step hBW hBr)).out hkl
      have hc := (int_c (hI.bel intE (bel_step hBW hBr)) hkl).2
      rw [ei] at hc
      have hiI : (i : Int) < (n1 : Int) := by omega
      have u0 := hr.cell hi
      have z0 := hr.frozen i
      have ul := hr.lt
      have HR1 : Hid ((wr.setCell ⟨W.heap.size, i, none⟩ (.bool true)).rowIs W.heap.size 4 n1 (fun j => .bool (hasT l (k + 1) j))) := (hr.set i (.bool true)).congr fun j _ => by rw [← hasT_set hkl ei j]; by_cases e : j = i <;> simp [e]
      have hB1 : Bel W (wr.setCell ⟨W.heap.size, i, none⟩ (.bool true)) := bel_set hBr (Nat.le_refl _) _
      clear hr ei
      go_wp2
      go_roundw
      case rel => exact ⟨k + 1, by omega, by go_num, HR1.out, hB1⟩
      case measure => simp [intOf]; omega
    · obtain rfl : k = m := by omega
      have hr2 : wr.rowIs W.heap.size 4 n1 (fun j => .bool (cmL (hasT l k) u 0 j)) := hr.congr fun j _ => by rw [cmL_zero]
      clear hr
      go_wp2
      obtain ⟨wo, how⟩ : ∃ V, V = wr := ⟨_, rfl⟩
      subst how
      go_loopw [10, 12, 29] (fun s _ i wr => ∃ (q : Nat) (x : Int), q ≤ p ∧ i = .int .i64 q ∧ s = .int .i64 x ∧ Hid (x = cmS (fun i => (rdX g i).time) (hasT l k) u n1 q) ∧ wr.rowIs W.heap.size 4 n1 (fun j => .bool (cmL (hasT l k) u q j)) ∧ Bel W wr) (fun _ _ i _ => p - (intOf i).toNat)
      case atStart => exact ⟨0, 0, Nat.zero_le _, rfl, rfl, ((cmS_zero _ _ _ _).symm : (0 : Int) = _), hr2, hBr⟩
      case round =>
        clear hr2 hBr
        obtain ⟨q, x, hq, rfl, rfl, HX, hr, hBr⟩ := hrel
        by_cases hqt : q < p
        · have hql : q < u.length := by rw [HU.out]; exact hqt
          obtain ⟨i, hi, ei⟩ := rdsB_at HB.out hql
          obtain ⟨b, off, f, rfl, hb, _⟩ := (hJ.bel intE (bel_step hBW hBr)).out hql
          have hc := (int_c (hJ.bel intE (bel_step hBW hBr)) hql).2
          rw [ei] at hc
          have hil : i < g.roads.length := by rw [H1.out]; exact hi
          obtain ⟨b', off', f', rfl, hb', _⟩ := (t1.bel roadE (bel_step hBW hBr)).out hil
          obtain ⟨_, _, _, y3, _⟩ := road_c (t1.bel roadE (bel_step hBW hBr)) hil
          have hT := time_bd HP.out i hil
          have hS := cmS_bd HP.out (hasT l k) u q
          rw [H1.out, ← HX.out] at hS
          obtain ⟨T, HTi⟩ : ∃ x, Hid ((rdX g i).time = x) := ⟨_, (rfl : (rdX g i).time = _)⟩
          rw [HTi.out] at y3 hT
          have x1 : wr.cell? ⟨w.heap.size, 1, none⟩ = some (.slice (some ⟨b', off', none⟩) n1 c1) := (XG.bel hBr).cell 1 (by simp)
          have xl' := (XG.bel hBr).lt
          have hiI : (i : Int) < (n1 : Int) := by omega
          have hne : w.heap.size ≠ W.heap.size := by have := xl; omega
          have u0 := hr.cell hi
          have z0 := hr.frozen i
          have ul := hr.lt
          rcases Bool.eq_false_or_eq_true (cmL (hasT l k) u q i) with hL | hL
          · have HR1 : Hid ((wr.setCell ⟨W.heap.size, i, none⟩ (.bool false)).rowIs W.heap.size 4 n1 (fun j => .bool (cmL (hasT l k) u (q + 1) j))) := (hr.set i (.bool false)).congr fun j _ => by rw [← cmL_yes hql ei j]; by_cases e : j = i <;> simp [e]
            have hB1 : Bel W (wr.setCell ⟨W.heap.size, i, none⟩ (.bool false)) := bel_set hBr (Nat.le_refl _) _
            have HN : Hid (x + T = cmS (fun i => (rdX g i).time) (hasT l k) u n1 (q + 1)) := by rw [cmS_yes hql ei hi hL, ← HX.out, HTi.out]; exact rfl
            rw [hL] at u0
            clear hr ei hL
            go_wp2
            go_roundw
            case rel => exact ⟨q + 1, x + T, by omega, by go_num, rfl, HN.out, HR1.out, hB1⟩
            case measure => simp [intOf]; omega
          · have HR1 : Hid (wr.rowIs W.heap.size 4 n1 (fun j => .bool (cmL (hasT l k) u (q + 1) j))) := hr.congr fun j _ => by rw [cmL_no hql ei hL j]
            have HN : Hid (x = cmS (fun i => (rdX g i).time) (hasT l k) u n1 (q + 1)) := by rw [cmS_no hql ei hL]; exact HX.out
            rw [hL] at u0
            clear hr ei hL
            go_wp2
            go_roundw
            case rel => exact ⟨q + 1, x, by omega, by go_num, rfl, HN.out, HR1.out, hBr⟩
            case measure => simp [intOf]; omega
        · obtain rfl : q = p := by omega
          go_wp2
          go_ret
          exact ⟨ret_num HX.out, bel_step hBW hBr⟩
end Go.Proofs.Ytbfaofgdnobheaa
