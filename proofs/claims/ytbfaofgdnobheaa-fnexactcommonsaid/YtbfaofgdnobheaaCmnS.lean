/-
  What two lists of Roads have in common, whether a path loops, in the model: contracts.
-/
import Derived.Test.YtbfaofgdnobheaaGphS
import Derived.Test.YtbfaofgdnobheaaCmnI
namespace Go.Proofs.Ytbfaofgdnobheaa
open Go.RowKit Go.Maps

theorem roadIs_r (i : Int) (a0 : Option Addr) (n0 c0 : Nat) (a1 : Option Addr) (n1 c1 : Nat) (a2 : Option Addr) (n2 c2 : Nat) (r : Bool) (w : World) (h : inN n1 i = r) :
    Calls Try.prog 78 #[gphV a0 n0 c0 a1 n1 c1 a2 n2 c2, .int .i64 i] w fun e w' => e = .returned (.bool r) ∧ Bel w w' := by
  have hB := bel_alloc (Bel.refl w) (.cells #[.slice a0 n0 c0, .slice a1 n1 c1, .slice a2 n2 c2] 40)
  by_cases h0 : 0 ≤ i
  · by_cases h1 : i < (n1 : Int)
    · obtain rfl : r = true := by rw [← h]; exact inN_iff.2 ⟨h0, h1⟩
      clear h
      go_enter Try.func78, Try.ntmps78
      go_wp2
      go_ret
      exact ⟨rfl, hB⟩
    · obtain rfl : r = false := by rw [← h]; exact inN_not.2 (by omega)
      clear h
      go_enter Try.func78, Try.ntmps78
      go_wp2
      go_ret
      exact ⟨rfl, hB⟩
  · obtain rfl : r = false := by rw [← h]; exact inN_not.2 (by omega)
    clear h
    go_enter Try.func78, Try.ntmps78
    go_wp2
    go_ret
    exact ⟨rfl, hB⟩

set_option maxRecDepth 100000 in
set_option maxHeartbeats 2000000 in
theorem roadsOk_any (a0 : Option Addr) (n0 c0 : Nat) (a1 : Option Addr) (n1 c1 : Nat) (a2 : Option Addr) (n2 c2 : Nat) (a : Option Addr) (n c : Nat) (l : List Int) (bs : List Nat) (w : World) (hT : Ints w a l bs) (hn : l.length = n) (hm : n ≤ 1048576) :
    Calls Try.prog 38 #[gphV a0 n0 c0 a1 n1 c1 a2 n2 c2, .slice a n c] w fun e w' => e = .returned (.bool (rdsB n1 l)) ∧ Bel w w' := by
  have Hn : Hid (l.length = n) := hn
  clear hn
  obtain ⟨W, HW⟩ : ∃ W, Hid (W = w.alloc (.cells #[.slice a0 n0 c0, .slice a1 n1 c1, .slice a2 n2 c2] 40)) := ⟨_, (rfl : w.alloc (.cells #[.slice a0 n0 c0, .slice a1 n1 c1, .slice a2 n2 c2] 40) = _)⟩
  have hBW : Bel w W := by rw [HW.out]; exact bel_alloc (Bel.refl _) _
  have XG : Blk W w.heap.size [.slice a0 n0 c0, .slice a1 n1 c1, .slice a2 n2 c2] := by rw [HW.out]; exact Blk.new w [.slice a0 n0 c0, .slice a1 n1 c1, .slice a2 n2 c2] _
  go_enter Try.func38, Try.ntmps38
  go_wp2
  rw [← HW.out]
  go_loopw [5] (fun i wr => ∃ k : Nat, k ≤ n ∧ i = .int .i64 k ∧ (∀ j (h : j < l.length), j < k → inN n1 l[j] = true) ∧ Bel W wr) (fun i _ => n - (intOf i).toNat)
  case atStart => exact ⟨0, Nat.zero_le _, rfl, fun j _ hj => absurd hj (Nat.not_lt_zero _), Bel.refl _⟩
  case round =>
    obtain ⟨k, hk, rfl, hall, hbel⟩ := hrel
    have H : Hid (∀ j (h : j < l.length), j < k → inN n1 l[j] = true) := hall
    clear hall
    by_cases hlt : k < n
    · have hkl : k < l.length := by rw [Hn.out]; exact hlt
      obtain ⟨b, off, f, rfl, _⟩ := hT.out hkl
      obtain ⟨d, Hd⟩ : ∃ d, Hid (d = l[k]) := ⟨_, (rfl : l[k] = _)⟩
      have hlI : (k : Int) < (n : Int) := by omega
      have hS : ∀ w', Bel wr w' → w'.cell? ⟨w.heap.size, 0, none⟩ = some (.slice a0 n0 c0) ∧ w'.cell? ⟨w.heap.size, 1, none⟩ = some (.slice a1 n1 c1) ∧ w'.cell? ⟨w.heap.size, 2, none⟩ = some (.slice a2 n2 c2) ∧ w'.cell? ⟨b, off + k, none⟩ = some (.int .i64 d) := fun w' h => by
        have hX := XG.bel (bel_step hbel h)
        have h1 := (int_c (hT.bel intE (bel_step hBW (bel_step hbel h))) hkl).2
        rw [← Hd.out] at h1
        exact ⟨hX.cell 0 (by simp), hX.cell 1 (by simp), hX.cell 2 (by simp), h1⟩
      have g0 : Bel wr wr := Bel.refl _
      rcases Bool.eq_false_or_eq_true (inN n1 d) with hf | hf
      · have HA : Hid (inN n1 l[k] = true) := by rw [← Hd.out]; exact hf
        go_upto_region 4 with fail
        go_region_held3 (fun w' => Bel wr w') (with_reducible (repeat (first | assumption | exact g0 | refine Bel.drew ?_ | refine bel_then (by assumption) ?_)))
          ((go_at_call 78; refine (roadIs_r _ _ _ _ _ _ _ _ _ _ true _ hf).mono ?_; rintro e w2 ⟨rfl, hb2⟩))
        have hH : Bel wr w2 := by assumption
        have hB1 := bel_step hbel hH
        clear hS
        go_wp2
        go_roundw
        case rel => exact ⟨k + 1, by omega, by go_num, fun j h hj => by
                        (by_cases e : j = k)
                        · subst e; exact HA.out
                        · exact H.out j h (by omega), hB1⟩
        case measure => simp [intOf]; omega
      · have HF : Hid (false = rdsB n1 l) := (rdsB_no hkl (by rw [← Hd.out]; exact hf)).symm
        go_upto_region 4 with fail
        go_region_held3 (fun w' => Bel wr w') (with_reducible (repeat (first | assumption | exact g0 | refine Bel.drew ?_ | refine bel_then (by assumption) ?_)))
          ((go_at_call 78; refine (roadIs_r _ _ _ _ _ _ _ _ _ _ false _ hf).mono ?_; rintro e w2 ⟨rfl, hb2⟩))
        have hH : Bel wr w2 := by assumption
        have hB1 := bel_step hbel hH
        clear hS
        go_wp2
        go_ret
        exact ⟨ret_bl HF.out, bel_step hBW hB1⟩
    · have HT : Hid (true = rdsB n1 l) := (rdsB_yes fun i h => H.out i h (by rw [Hn.out] at h; omega)).symm
      go_wp2
      go_ret
      exact ⟨ret_bl HT.out, bel_step hBW hbel⟩
theorem row_drewN {w : World} {b : Nat} {t : TypeId} {n : Nat} {f : Nat → Value} (h : w.rowIs b t n f) : ∀ k, (w.drewN k).rowIs b t n f
  | 0 => h
  | k + 1 => by rw [World.drewN]; first | exact (row_drewN h k).drew | exact row_drewN h.drew k
theorem roadsOk_r (a0 : Option Addr) (n0 c0 : Nat) (a1 : Option Addr) (n1 c1 : Nat) (a2 : Option Addr) (n2 c2 : Nat) (a : Option Addr) (n c : Nat) (l : List Int) (bs : List Nat) (r : Bool) (w : World) (hT : Ints w a l bs) (hn : l.length = n) (hm : n ≤ 1048576) (hr : rdsB n1 l = r) :
    Calls Try.prog 38 #[gphV a0 n0 c0 a1 n1 c1 a2 n2 c2, .slice a n c] w fun e w' => e = .returned (.bool r) ∧ Bel w w' := by
  subst hr; exact roadsOk_any a0 n0 c0 a1 n1 c1 a2 n2 c2 a n c l bs w hT hn hm

set_option maxRecDepth 100000 in
set_option maxHeartbeats 4000000 in
theorem l12Common_any (a0 : Option Addr) (n0 c0 : Nat) (a1 : Option Addr) (n1 c1 : Nat) (a2 : Option Addr) (n2 c2 : Nat) (g : GraphD) (b1 : List Nat) (ar : Option Addr) (m cr : Nat) (l : List Int) (br : List Nat) (au : Option Addr) (p cu : Nat) (u : List Int) (bu : List Nat) (w : World) (t1 : RoadL w a1 g.roads b1) (e1 : g.roads.length = n1) (hP : graphP g) (hI : Ints w ar l br) (hl : l.length = m) (hm : m ≤ 1048576) (hJ : Ints w au u bu) (hu : u.length = p) (hp : p ≤ 1048576) (hA : rdsB n1 l = true) (hB : rdsB n1 u = true) :
    Calls Try.prog 39 #[gphV a0 n0 c0 a1 n1 c1 a2 n2 c2, .slice ar m cr, .slice au p cu] w fun e w' => e = .returned (.int .i64 (cmS (fun i => (rdX g i).time) (hasT u p) l n1 m)) ∧ Bel w w' := by
  have H1 : Hid (g.roads.length = n1) := e1
  have HU : Hid (u.length = p) := hu
  have HL : Hid (l.length = m) := hl
  have HP : Hid (graphP g) := hP
  have HB : Hid (rdsB n1 u = true) := hB
  have HA : Hid (rdsB n1 l = true) := hA
  have m1 : n1 ≤ 8000 := by rw [← e1]; exact hP.1.2.1
  clear e1 hu hl hP hB hA
  obtain ⟨W, HW⟩ : ∃ W, Hid (W = w.alloc (.cells #[.slice a0 n0 c0, .slice a1 n1 c1, .slice a2 n2 c2] 40)) := ⟨_, (rfl : w.alloc (.cells #[.slice a0 n0 c0, .slice a1 n1 c1, .slice a2 n2 c2] 40) = _)⟩
  have hBW : Bel w W := by rw [HW.out]; exact bel_alloc (Bel.refl _) _
  have XG : Blk W w.heap.size [.slice a0 n0 c0, .slice a1 n1 c1, .slice a2 n2 c2] := by rw [HW.out]; exact Blk.new w [.slice a0 n0 c0, .slice a1 n1 c1, .slice a2 n2 c2] _
  have x1 : W.cell? ⟨w.heap.size, 1, none⟩ = some (.slice a1 n1 c1) := XG.cell 1 (by simp)
  have xl := XG.lt
  have hmk := fun w' => run_make_row' (P := Try.prog) 109 4 (.bool false) 1 Try.underlying109 infoBc rfl .i64 .i64 n1 (by omega) (by omega) w'
  obtain ⟨V, HV⟩ : ∃ V, Hid (V = W.alloc (.cells (madeCells #[.bool false] n1) 4)) := ⟨_, (rfl : W.alloc (.cells (madeCells #[.bool false] n1) 4) = _)⟩
  have R0 : V.rowIs W.heap.size 4 n1 (fun j => .bool (hasT u 0 j)) := by
    rw [HV.out]
    exact (World.rowIs_made W (.bool false) n1 4).congr fun j _ => by rw [hasT_zero]
  have hBV : Bel W V := by rw [HV.out]; exact bel_alloc (Bel.refl _) _
  go_enter Try.func39, Try.ntmps39
  go_upto_region 1 with fail
  rw [← HW.out]
  go_wp2
  rw [← HV.out]
  clear hmk x1
  go_loopw [8] (fun i wr => ∃ k : Nat, k ≤ p ∧ i = .int .i64 k ∧ wr.rowIs W.heap.size 4 n1 (fun j => .bool (hasT u k j)) ∧ Bel W wr) (fun i _ => p - (intOf i).toNat)
  case atStart => exact ⟨0, Nat.zero_le _, rfl, R0, hBV⟩
  case round =>
    clear R0 hBV HV
    obtain ⟨k, hk, rfl, hr, hBr⟩ := hrel
    by_cases hlt : k < p
    · have hkl : k < u.length := by rw [HU.out]; exact hlt
      obtain ⟨i, hi, ei⟩ := rdsB_at HB.out hkl
      obtain ⟨b, off, f, rfl, hb, _⟩ := (hJ.bel intE (bel_step hBW hBr)).out hkl
      have hc := (int_c (hJ.bel intE (bel_step hBW hBr)) hkl).2
      rw [ei] at hc
      have hiI : (i : Int) < (n1 : Int) := by omega
      have u0 := hr.cell hi
      have z0 := hr.frozen i
      have ul := hr.lt
      have HR1 : Hid ((wr.setCell ⟨W.heap.size, i, none⟩ (.bool true)).rowIs W.heap.size 4 n1 (fun j => .bool (hasT u (k + 1) j))) := (hr.set i (.bool true)).congr fun j _ => by rw [← hasT_set hkl ei j]; by_cases e : j = i <;> simp [e]
      have hB1 : Bel W (wr.setCell ⟨W.heap.size, i, none⟩ (.bool true)) := bel_set hBr (Nat.le_refl _) _
      clear hr ei
      go_wp2
      go_roundw
      case rel => exact ⟨k + 1, by omega, by go_num, HR1.out, hB1⟩
      case measure => simp [intOf]; omega
    · obtain rfl : k = p := by omega
      have hr2 : wr.rowIs W.heap.size 4 n1 (fun j => .bool (cmL (hasT u k) l 0 j)) := hr.congr fun j _ => by rw [cmL_zero]
      clear hr
      go_wp2
      obtain ⟨wo, how⟩ : ∃ V, V = wr := ⟨_, rfl⟩
      subst how
      go_loopw [9, 10] (fun s i wr => ∃ (q : Nat) (x : Int), q ≤ m ∧ i = .int .i64 q ∧ s = .int .i64 x ∧ Hid (x = cmS (fun i => (rdX g i).time) (hasT u k) l n1 q) ∧ wr.rowIs W.heap.size 4 n1 (fun j => .bool (cmL (hasT u k) l q j)) ∧ Bel W wr) (fun _ i _ => m - (intOf i).toNat)
      case atStart => exact ⟨0, 0, Nat.zero_le _, rfl, rfl, ((cmS_zero _ _ _ _).symm : (0 : Int) = _), hr2, hBr⟩
      case round =>
        clear hr2 hBr
        obtain ⟨q, x, hq, rfl, rfl, HX, hr, hBr⟩ := hrel
        by_cases hqt : q < m
        · have hql : q < l.length := by rw [HL.out]; exact hqt
          obtain ⟨i, hi, ei⟩ := rdsB_at HA.out hql
          obtain ⟨b, off, f, rfl, hb, _⟩ := (hI.bel intE (bel_step hBW hBr)).out hql
          have hc := (int_c (hI.bel intE (bel_step hBW hBr)) hql).2
          rw [ei] at hc
          have hil : i < g.roads.length := by rw [H1.out]; exact hi
          obtain ⟨b', off', f', rfl, hb', _⟩ := (t1.bel roadE (bel_step hBW hBr)).out hil
          obtain ⟨_, _, _, y3, _⟩ := road_c (t1.bel roadE (bel_step hBW hBr)) hil
          have hT := time_bd HP.out i hil
          have hS := cmS_bd HP.out (hasT u k) l q
          rw [H1.out, ← HX.out] at hS
          obtain ⟨T, HTi⟩ : ∃ x, Hid ((rdX g i).time = x) := ⟨_, (rfl : (rdX g i).time = _)⟩
          rw [HTi.out] at y3 hT
          have x1 : wr.cell? ⟨w.heap.size, 1, none⟩ = some (.slice (some ⟨b', off', none⟩) n1 c1) := (XG.bel hBr).cell 1 (by simp)
          have xl' := (XG.bel hBr).lt
          have hiI : (i : Int) < (n1 : Int) := by omega
          have hne : w.heap.size ≠ W.heap.size := by have := xl; omega
          have u0 := hr.cell hi
          have z0 := hr.frozen i
          have ul := hr.lt
          rcases Bool.eq_false_or_eq_true (cmL (hasT u k) l q i) with hL | hL
          · have HR1 : Hid (∀ d, ((wr.drewN d).setCell ⟨W.heap.size, i, none⟩ (.bool false)).rowIs W.heap.size 4 n1 (fun j => .bool (cmL (hasT u k) l (q + 1) j))) := fun d => ((row_drewN hr d).set i (.bool false)).congr fun j _ => by rw [← cmL_yes hql ei j]; by_cases e : j = i <;> simp [e]
            have HB1 : Hid (∀ d, Bel W ((wr.drewN d).setCell ⟨W.heap.size, i, none⟩ (.bool false))) := fun d => bel_set (bel_drewN hBr d) (Nat.le_refl _) _
            have HN : Hid (x + T = cmS (fun i => (rdX g i).time) (hasT u k) l n1 (q + 1)) := by rw [cmS_yes hql ei hi hL, ← HX.out, HTi.out]; exact rfl
            have hwr : IntKind.i64.wrap (x + T) = x + T := by rw [IntKind.wrap_i64]; omega
            rw [hL] at u0
            clear hr ei hL
            go_wp2
            go_quiet (fail)
            go_wp2
            go_roundw
            case rel => exact ⟨q + 1, x + T, by omega, by go_num, rfl, HN.out, HR1.out _, HB1.out _⟩
            case measure => simp [intOf]; omega
          · have HR1 : Hid (wr.rowIs W.heap.size 4 n1 (fun j => .bool (cmL (hasT u k) l (q + 1) j))) := hr.congr fun j _ => by rw [cmL_no hql ei hL j]
            have HN : Hid (x = cmS (fun i => (rdX g i).time) (hasT u k) l n1 (q + 1)) := by rw [cmS_no hql ei hL]; exact HX.out
            rw [hL] at u0
            clear hr ei hL
            go_wp2
            go_roundw
            case rel => exact ⟨q + 1, x, by omega, by go_num, rfl, HN.out, HR1.out, hBr⟩
            case measure => simp [intOf]; omega
        · obtain rfl : q = m := by omega
          go_wp2
          go_ret
          exact ⟨ret_num HX.out, bel_step hBW hBr⟩

set_option maxRecDepth 100000 in
set_option maxHeartbeats 4000000 in
theorem l12Loops_any (a0 : Option Addr) (n0 c0 : Nat) (a1 : Option Addr) (n1 c1 : Nat) (a2 : Option Addr) (n2 c2 : Nat) (g : GraphD) (b1 : List Nat) (ar : Option Addr) (m cr : Nat) (l : List Int) (br : List Nat) (w : World) (t1 : RoadL w a1 g.roads b1) (e0 : g.places.length = n0) (e1 : g.roads.length = n1) (hP : graphP g) (hI : Ints w ar l br) (hl : l.length = m) (hm : m ≤ 1048576) (hA : rdsB n1 l = true) :
    Calls Try.prog 49 #[gphV a0 n0 c0 a1 n1 c1 a2 n2 c2, .slice ar m cr] w fun e w' => e = .returned (.bool (lpQ g l)) ∧ Bel w w' := by
  have H0 : Hid (g.places.length = n0) := e0
  have H1 : Hid (g.roads.length = n1) := e1
  have HL : Hid (l.length = m) := hl
  have HP : Hid (graphP g) := hP
  have HA : Hid (rdsB n1 l = true) := hA
  have m0 : n0 ≤ 5000 := by rw [← e0]; exact hP.1.1
  have m1 : n1 ≤ 8000 := by rw [← e1]; exact hP.1.2.1
  obtain ⟨R, HR⟩ : ∃ R, Hid (lpQ g l = R) := ⟨_, (rfl : lpQ g l = _)⟩
  rw [HR.out]
  clear e0 e1 hl hP hA
  obtain ⟨W, HW⟩ : ∃ W, Hid (W = w.alloc (.cells #[.slice a0 n0 c0, .slice a1 n1 c1, .slice a2 n2 c2] 40)) := ⟨_, (rfl : w.alloc (.cells #[.slice a0 n0 c0, .slice a1 n1 c1, .slice a2 n2 c2] 40) = _)⟩
  have hBW : Bel w W := by rw [HW.out]; exact bel_alloc (Bel.refl _) _
  have XG : Blk W w.heap.size [.slice a0 n0 c0, .slice a1 n1 c1, .slice a2 n2 c2] := by rw [HW.out]; exact Blk.new w [.slice a0 n0 c0, .slice a1 n1 c1, .slice a2 n2 c2] _
  have x0 : W.cell? ⟨w.heap.size, 0, none⟩ = some (.slice a0 n0 c0) := XG.cell 0 (by simp)
  have xl := XG.lt
  have hmk := fun w' => run_make_row' (P := Try.prog) 109 4 (.bool false) 1 Try.underlying109 infoBc rfl .i64 .i64 n0 (by omega) (by omega) w'
  obtain ⟨V, HV⟩ : ∃ V, Hid (V = W.alloc (.cells (madeCells #[.bool false] n0) 4)) := ⟨_, (rfl : W.alloc (.cells (madeCells #[.bool false] n0) 4) = _)⟩
  have R0 : V.rowIs W.heap.size 4 n0 (fun j => .bool (lpW g l 0 j)) := by
    rw [HV.out]
    exact (World.rowIs_made W (.bool false) n0 4).congr fun j _ => by rw [lpW_zero]
  have hBV : Bel W V := by rw [HV.out]; exact bel_alloc (Bel.refl _) _
  go_enter Try.func49, Try.ntmps49
  go_upto_region 1 with fail
  rw [← HW.out]
  go_wp2
  rw [← HV.out]
  clear hmk x0
  go_loopw [6, 7] (fun i _ wr => ∃ k : Nat, k ≤ m ∧ i = .int .i64 k ∧ Hid (∀ j, j < k → ¬ lpAt g l j) ∧ wr.rowIs W.heap.size 4 n0 (fun j => .bool (lpW g l k j)) ∧ Bel W wr) (fun i _ _ => m - (intOf i).toNat)
  case atStart => exact ⟨0, Nat.zero_le _, rfl, (fun j hj => absurd hj (Nat.not_lt_zero _) : ∀ j, j < 0 → ¬ lpAt g l j), R0, hBV⟩
  case round =>
    clear R0 hBV HV
    obtain ⟨k, hk, rfl, HN, hr, hBr⟩ := hrel
    by_cases hlt : k < m
    · have hkl : k < l.length := by rw [HL.out]; exact hlt
      obtain ⟨i, hi, ei⟩ := rdsB_at HA.out hkl
      obtain ⟨b, off, f, rfl, hb0, _⟩ := hI.out hkl
      have hb := bel_lt (bel_step hBW hBr) hb0
      have hc := (int_c (hI.bel intE (bel_step hBW hBr)) hkl).2
      rw [ei] at hc
      have hil : i < g.roads.length := by rw [H1.out]; exact hi
      obtain ⟨b', off', f', rfl, hb0', _⟩ := t1.out hil
      have hb' := bel_lt (bel_step hBW hBr) hb0'
      obtain ⟨y0, y1, y2, y3, y4, y5⟩ := road_c (t1.bel roadE (bel_step hBW hBr)) hil
      have HI : Hid (lpI l k = i) := lpI_at hkl ei
      have hro := roadB_out (HP.out.2.2.1 i hil)
      rw [← rdX_eq hil, H0.out] at hro
      obtain ⟨d, Hd⟩ : ∃ d, Hid (rdX g i = d) := ⟨_, (rfl : rdX g i = _)⟩
      rw [Hd.out] at hro y0 y1 y2 y3 y4 y5
      obtain ⟨F, eF⟩ : ∃ F : Nat, d.fr = (F : Int) := ⟨d.fr.toNat, by omega⟩
      obtain ⟨T, eT⟩ : ∃ T : Nat, d.to = (T : Int) := ⟨d.to.toNat, by omega⟩
      have hF : F < n0 := by omega
      have hT : T < n0 := by omega
      have HT : Hid ((rdX g (lpI l k)).to = (T : Int)) := by rw [HI.out, Hd.out]; exact eT
      rw [eF] at y0
      rw [eT] at y1
      have hFI : (F : Int) < (n0 : Int) := by omega
      have hTI : (T : Int) < (n0 : Int) := by omega
      have hiI : (i : Int) < (n1 : Int) := by omega
      have x1 : wr.cell? ⟨w.heap.size, 1, none⟩ = some (.slice (some ⟨b', off', none⟩) n1 c1) := (XG.bel hBr).cell 1 (by simp)
      have xl' := (XG.bel hBr).lt
      have ul := hr.lt
      have hne : w.heap.size ≠ W.heap.size := by have := xl; omega
      have hbW : b ≠ W.heap.size := by have := bel_lt hBW hb0; omega
      have hbW' : b' ≠ W.heap.size := by have := bel_lt hBW hb0'; omega
      have HFr : Hid (d.fr = (F : Int)) := eF
      have HTo : Hid (d.to = (T : Int)) := eT
      clear hro eF eT
      rcases k with _ | k'
      · have HF : Hid ((rdX g (lpI l 0)).fr = (F : Int)) := by rw [HI.out, Hd.out]; exact HFr.out
        obtain ⟨X, HX⟩ : ∃ X, Hid (X = (wr.setCell ⟨W.heap.size, F, none⟩ (.bool true)).drew) := ⟨_, (rfl : (wr.setCell ⟨W.heap.size, F, none⟩ (.bool true)).drew = _)⟩
        have hrX : X.rowIs W.heap.size 4 n0 (fun j => .bool (lpV g l 0 j)) := by
          rw [HX.out]
          exact ((hr.set F (.bool true)).congr fun j _ => by rw [← lpV_first HF.out j]; by_cases e : j = F <;> simp [e]).drew
        have hBX : Bel W X := by rw [HX.out]; exact Bel.drew (bel_set hBr (Nat.le_refl _) _)
        have u0 := hr.cell hF
        have zu := hr.frozen F
        rw [Nat.add_zero] at hc
        clear hr
        go_upto_region 6 with fail
        go_big_region
        rw [← HX.out]
        have x1' : X.cell? ⟨w.heap.size, 1, none⟩ = some (.slice (some ⟨b', off', none⟩) n1 c1) := (XG.bel hBX).cell 1 (by simp)
        have xl2 := (XG.bel hBX).lt
        have hc' := (int_c (hI.bel intE (bel_step hBW hBX)) hkl).2
        rw [ei, Nat.add_zero] at hc'
        have hb2 := bel_lt (bel_step hBW hBX) hb0
        have hb2' := bel_lt (bel_step hBW hBX) hb0'
        obtain ⟨_, y1', _⟩ := road_c (t1.bel roadE (bel_step hBW hBX)) hil
        rw [Hd.out, HTo.out] at y1'
        clear u0 zu y0 y1 y2 y3 y4 y5 hc x1 xl' hb hb' ul
        have q0 := hrX.cell hT
        have zq := hrX.frozen T
        have xq := hrX.lt
        rw [lpV_yes HT.out] at q0
        by_cases hy : lpAt g l 0
        · have HF2 : Hid (R = true) := (by rw [← HR.out]; exact lpQ_yes HP.out (by rw [H1.out]; exact HA.out) hkl hy : R = true)
          rw [bP_true hy] at q0
          clear hrX
          go_wp2
          go_quiet (fail)
          go_wp2
          go_ret
          exact ⟨by rw [HF2.out]; rfl, bel_step hBW (bel_drewN hBX _)⟩
        · rw [bP_false hy] at q0
          have HN2 : Hid (∀ j, j < 0 + 1 → ¬ lpAt g l j) := (fun j hj => by
            (by_cases e : j = 0)
            · subst e; exact hy
            · exact HN.out j (by omega) : ∀ j, j < 0 + 1 → ¬ lpAt g l j)
          have HR1 : Hid (∀ d, ((X.drewN d).setCell ⟨W.heap.size, T, none⟩ (.bool true)).rowIs W.heap.size 4 n0 (fun j => .bool (lpW g l (0 + 1) j))) := fun d => ((row_drewN hrX d).set T (.bool true)).congr fun j _ => by rw [← lpV_set HT.out j]; by_cases e : j = T <;> simp [e]
          have HB2 : Hid (∀ d, Bel W ((X.drewN d).setCell ⟨W.heap.size, T, none⟩ (.bool true))) := fun d => bel_set (bel_drewN hBX d) (Nat.le_refl _) _
          clear hrX hy
          go_wp2
          go_quiet (fail)
          go_wp2
          go_roundw
          case rel => exact ⟨0 + 1, by omega, by go_num, HN2.out, HR1.out _, HB2.out _⟩
          case measure => simp [intOf]; omega
      · obtain ⟨X, HX⟩ : ∃ X, X = wr := ⟨_, rfl⟩
        subst HX
        have hrX : X.rowIs W.heap.size 4 n0 (fun j => .bool (lpV g l (k' + 1) j)) := hr.congr fun j _ => by rw [lpV_on]
        have hBX := hBr
        clear hr y0 y2 y3 y4 y5
        go_upto_region 7 with fail
        have q0 := hrX.cell hT
        have zq := hrX.frozen T
        have xq := hrX.lt
        rw [lpV_yes HT.out] at q0
        by_cases hy : lpAt g l (k' + 1)
        · have HF2 : Hid (R = true) := (by rw [← HR.out]; exact lpQ_yes HP.out (by rw [H1.out]; exact HA.out) hkl hy : R = true)
          rw [bP_true hy] at q0
          clear hrX
          go_quiet (fail)
          go_wp2
          go_ret
          exact ⟨by rw [HF2.out]; rfl, bel_step hBW (bel_drewN hBX _)⟩
        · rw [bP_false hy] at q0
          have HN2 : Hid (∀ j, j < (k' + 1) + 1 → ¬ lpAt g l j) := (fun j hj => by
            (by_cases e : j = (k' + 1))
            · subst e; exact hy
            · exact HN.out j (by omega) : ∀ j, j < (k' + 1) + 1 → ¬ lpAt g l j)
          have HR1 : Hid (∀ d, ((X.drewN d).setCell ⟨W.heap.size, T, none⟩ (.bool true)).rowIs W.heap.size 4 n0 (fun j => .bool (lpW g l ((k' + 1) + 1) j))) := fun d => ((row_drewN hrX d).set T (.bool true)).congr fun j _ => by rw [← lpV_set HT.out j]; by_cases e : j = T <;> simp [e]
          have HB2 : Hid (∀ d, Bel W ((X.drewN d).setCell ⟨W.heap.size, T, none⟩ (.bool true))) := fun d => bel_set (bel_drewN hBX d) (Nat.le_refl _) _
          clear hrX hy
          go_quiet (fail)
          go_wp2
          go_roundw
          case rel => exact ⟨(k' + 1) + 1, by omega, by go_num, HN2.out, HR1.out _, HB2.out _⟩
          case measure => simp [intOf]; omega
    · obtain rfl : k = m := by omega
      have HF : Hid (R = false) := (by rw [← HR.out]; exact lpQ_end (fun j hj => HN.out j (by rw [HL.out] at hj; exact hj)) : R = false)
      go_wp2
      go_ret
      exact ⟨by rw [HF.out]; rfl, bel_step hBW hBr⟩


set_option maxRecDepth 100000 in
set_option maxHeartbeats 4000000 in
theorem specCommon_any (v : Value) (g : GraphD) (bs : List Nat) (ar : Option Addr) (m cr : Nat) (l : List Int) (br : List Nat) (au : Option Addr) (p cu : Nat) (u : List Int) (bu : List Nat) (w : World) (hV : GphV w v g bs) (hQ : GphQ g) (hI : Ints w ar l br) (hl : l.length = m) (hm : m ≤ 1048576) (hJ : Ints w au u bu) (hu : u.length = p) (hp : p ≤ 1048576) :
    Calls Try.prog 13 #[v, .slice ar m cr, .slice au p cu] w fun e w' => e = .returned (.int .i64 (cmQ g l u)) ∧ Bel w w' := by
  have HL : Hid (l.length = m) := hl
  have HU : Hid (u.length = p) := hu
  clear hl hu
  have hV' := hV
  obtain ⟨a0, c0, a1, c1, a2, c2, b0, b1, b2, _, rfl, t0, t1, t2⟩ := hV
  obtain ⟨n0, H0⟩ : ∃ n, Hid (g.places.length = n) := ⟨_, (rfl : g.places.length = _)⟩
  obtain ⟨n1, H1⟩ : ∃ n, Hid (g.roads.length = n) := ⟨_, (rfl : g.roads.length = _)⟩
  obtain ⟨n2, H2⟩ : ∃ n, Hid (g.bans.length = n) := ⟨_, (rfl : g.bans.length = _)⟩
  rw [H0.out, H1.out, H2.out] at hV' ⊢
  obtain ⟨W, HW⟩ : ∃ W, Hid (W = w.alloc (.cells #[.slice a0 n0 c0, .slice a1 n1 c1, .slice a2 n2 c2] 40)) := ⟨_, (rfl : w.alloc (.cells #[.slice a0 n0 c0, .slice a1 n1 c1, .slice a2 n2 c2] 40) = _)⟩
  have hBW : Bel w W := by rw [HW.out]; exact bel_alloc (Bel.refl _) _
  have XG : Blk W w.heap.size [.slice a0 n0 c0, .slice a1 n1 c1, .slice a2 n2 c2] := by rw [HW.out]; exact Blk.new w [.slice a0 n0 c0, .slice a1 n1 c1, .slice a2 n2 c2] _
  obtain ⟨R, HR⟩ : ∃ R, Hid (cmQ g l u = R) := ⟨_, (rfl : cmQ g l u = _)⟩
  rw [HR.out]
  go_enter Try.func13, Try.ntmps13
  go_wp2_with fail
  rw [← HW.out]
  refine (specGraphOk_any _ g bs _ (hV'.bel hBW) hQ).mono ?_
  rintro e w1 ⟨rfl, hb1⟩
  have hB1 := bel_step hBW hb1
  have XG1 := XG.bel hb1
  have x0 : w1.cell? ⟨w.heap.size, 0, none⟩ = some (.slice a0 n0 c0) := XG1.cell 0 (by simp)
  have x1 : w1.cell? ⟨w.heap.size, 1, none⟩ = some (.slice a1 n1 c1) := XG1.cell 1 (by simp)
  have x2 : w1.cell? ⟨w.heap.size, 2, none⟩ = some (.slice a2 n2 c2) := XG1.cell 2 (by simp)
  have xl := XG1.lt
  by_cases hP : graphP g
  rotate_left
  · have HF : Hid (R = 0) := (by rw [← HR.out]; exact cmQ_no (fun h => hP h.1) : R = 0)
    rw [bP_false hP]
    go_wp2
    go_ret
    exact ⟨by rw [HF.out]; rfl, hB1⟩
  rw [bP_true hP]
  rcases Bool.eq_false_or_eq_true (rdsB n1 l) with hs | hs
  rotate_left
  · have HF : Hid (R = 0) := (by rw [← HR.out]; exact cmQ_no (fun h => by have := h.2.1; rw [H1.out, hs] at this; cases this) : R = 0)
    go_wp2_with fail
    refine (roadsOk_r _ _ _ _ _ _ _ _ _ _ _ _ l br false _ (hI.bel intE hB1) HL.out hm hs).mono ?_
    rintro e w2 ⟨rfl, hb2⟩
    go_wp2
    go_ret
    exact ⟨by rw [HF.out]; rfl, bel_step hB1 hb2⟩
  go_wp2_with fail
  refine (roadsOk_r _ _ _ _ _ _ _ _ _ _ _ _ l br true _ (hI.bel intE hB1) HL.out hm hs).mono ?_
  rintro e w2 ⟨rfl, hb2⟩
  have hB2 := bel_step hB1 hb2
  have XG2 := XG1.bel hb2
  have y0 : w2.cell? ⟨w.heap.size, 0, none⟩ = some (.slice a0 n0 c0) := XG2.cell 0 (by simp)
  have y1 : w2.cell? ⟨w.heap.size, 1, none⟩ = some (.slice a1 n1 c1) := XG2.cell 1 (by simp)
  have y2 : w2.cell? ⟨w.heap.size, 2, none⟩ = some (.slice a2 n2 c2) := XG2.cell 2 (by simp)
  have yl := XG2.lt
  clear x0 x1 x2 xl XG1 XG
  rcases Bool.eq_false_or_eq_true (rdsB n1 u) with ht | ht
  rotate_left
  · have HF : Hid (R = 0) := (by rw [← HR.out]; exact cmQ_no (fun h => by have := h.2.2; rw [H1.out, ht] at this; cases this) : R = 0)
    go_wp2_with fail
    refine (roadsOk_r _ _ _ _ _ _ _ _ _ _ _ _ u bu false _ (hJ.bel intE hB2) HU.out hp ht).mono ?_
    rintro e w3 ⟨rfl, hb3⟩
    go_wp2
    go_ret
    exact ⟨by rw [HF.out]; rfl, bel_step hB2 hb3⟩
  have HF : Hid (R = cmS (fun i => (rdX g i).time) (hasT u p) l n1 m) := (by
    rw [← HR.out, cmQ_at' hP (by rw [H1.out]; exact hs) (by rw [H1.out]; exact ht), H1.out, HL.out, HU.out] : R = cmS (fun i => (rdX g i).time) (hasT u p) l n1 m)
  go_wp2_with fail
  refine (roadsOk_r _ _ _ _ _ _ _ _ _ _ _ _ u bu true _ (hJ.bel intE hB2) HU.out hp ht).mono ?_
  rintro e w3 ⟨rfl, hb3⟩
  have hB3 := bel_step hB2 hb3
  have XG3 := XG2.bel hb3
  have z0 : w3.cell? ⟨w.heap.size, 0, none⟩ = some (.slice a0 n0 c0) := XG3.cell 0 (by simp)
  have z1 : w3.cell? ⟨w.heap.size, 1, none⟩ = some (.slice a1 n1 c1) := XG3.cell 1 (by simp)
  have z2 : w3.cell? ⟨w.heap.size, 2, none⟩ = some (.slice a2 n2 c2) := XG3.cell 2 (by simp)
  have zl := XG3.lt
  clear y0 y1 y2 yl XG2 XG3
  go_wp2_with fail
  refine (l12Common_any _ _ _ _ _ _ _ _ _ g b1 _ _ _ l br _ _ _ u bu _ (t1.bel roadE hB3) H1.out hP (hI.bel intE hB3) HL.out hm (hJ.bel intE hB3) HU.out hp hs ht).mono ?_
  rintro e w4 ⟨rfl, hb4⟩
  clear z0 z1 z2 zl
  rw [← HF.out]
  go_wp2
  go_ret
  exact ⟨rfl, bel_step hB3 hb4⟩

set_option maxRecDepth 100000 in
set_option maxHeartbeats 4000000 in
theorem specLoops_any (v : Value) (g : GraphD) (bs : List Nat) (ar : Option Addr) (m cr : Nat) (l : List Int) (br : List Nat) (w : World) (hV : GphV w v g bs) (hQ : GphQ g) (hI : Ints w ar l br) (hl : l.length = m) (hm : m ≤ 1048576) :
    Calls Try.prog 19 #[v, .slice ar m cr] w fun e w' => e = .returned (.bool (lpQ g l)) ∧ Bel w w' := by
  have HL : Hid (l.length = m) := hl
  clear hl
  have hV' := hV
  obtain ⟨a0, c0, a1, c1, a2, c2, b0, b1, b2, _, rfl, t0, t1, t2⟩ := hV
  obtain ⟨n0, H0⟩ : ∃ n, Hid (g.places.length = n) := ⟨_, (rfl : g.places.length = _)⟩
  obtain ⟨n1, H1⟩ : ∃ n, Hid (g.roads.length = n) := ⟨_, (rfl : g.roads.length = _)⟩
  obtain ⟨n2, H2⟩ : ∃ n, Hid (g.bans.length = n) := ⟨_, (rfl : g.bans.length = _)⟩
  rw [H0.out, H1.out, H2.out] at hV' ⊢
  obtain ⟨W, HW⟩ : ∃ W, Hid (W = w.alloc (.cells #[.slice a0 n0 c0, .slice a1 n1 c1, .slice a2 n2 c2] 40)) := ⟨_, (rfl : w.alloc (.cells #[.slice a0 n0 c0, .slice a1 n1 c1, .slice a2 n2 c2] 40) = _)⟩
  have hBW : Bel w W := by rw [HW.out]; exact bel_alloc (Bel.refl _) _
  have XG : Blk W w.heap.size [.slice a0 n0 c0, .slice a1 n1 c1, .slice a2 n2 c2] := by rw [HW.out]; exact Blk.new w [.slice a0 n0 c0, .slice a1 n1 c1, .slice a2 n2 c2] _
  obtain ⟨R, HR⟩ : ∃ R, Hid (lpQ g l = R) := ⟨_, (rfl : lpQ g l = _)⟩
  rw [HR.out]
  go_enter Try.func19, Try.ntmps19
  go_wp2_with fail
  rw [← HW.out]
  refine (specGraphOk_any _ g bs _ (hV'.bel hBW) hQ).mono ?_
  rintro e w1 ⟨rfl, hb1⟩
  have hB1 := bel_step hBW hb1
  have XG1 := XG.bel hb1
  have x0 : w1.cell? ⟨w.heap.size, 0, none⟩ = some (.slice a0 n0 c0) := XG1.cell 0 (by simp)
  have x1 : w1.cell? ⟨w.heap.size, 1, none⟩ = some (.slice a1 n1 c1) := XG1.cell 1 (by simp)
  have x2 : w1.cell? ⟨w.heap.size, 2, none⟩ = some (.slice a2 n2 c2) := XG1.cell 2 (by simp)
  have xl := XG1.lt
  by_cases hP : graphP g
  rotate_left
  · have HF : Hid (R = false) := (by rw [← HR.out]; exact lpQ_no (fun h => hP h.1) : R = false)
    rw [bP_false hP]
    go_wp2
    go_ret
    exact ⟨by rw [HF.out]; rfl, hB1⟩
  rw [bP_true hP]
  rcases Bool.eq_false_or_eq_true (rdsB n1 l) with hs | hs
  rotate_left
  · have HF : Hid (R = false) := (by rw [← HR.out]; exact lpQ_no (fun h => by have := h.2; rw [H1.out, hs] at this; cases this) : R = false)
    go_wp2_with fail
    refine (roadsOk_r _ _ _ _ _ _ _ _ _ _ _ _ l br false _ (hI.bel intE hB1) HL.out hm hs).mono ?_
    rintro e w2 ⟨rfl, hb2⟩
    go_wp2
    go_ret
    exact ⟨by rw [HF.out]; rfl, bel_step hB1 hb2⟩
  go_wp2_with fail
  refine (roadsOk_r _ _ _ _ _ _ _ _ _ _ _ _ l br true _ (hI.bel intE hB1) HL.out hm hs).mono ?_
  rintro e w2 ⟨rfl, hb2⟩
  have hB2 := bel_step hB1 hb2
  have XG2 := XG1.bel hb2
  have y0 : w2.cell? ⟨w.heap.size, 0, none⟩ = some (.slice a0 n0 c0) := XG2.cell 0 (by simp)
  have y1 : w2.cell? ⟨w.heap.size, 1, none⟩ = some (.slice a1 n1 c1) := XG2.cell 1 (by simp)
  have y2 : w2.cell? ⟨w.heap.size, 2, none⟩ = some (.slice a2 n2 c2) := XG2.cell 2 (by simp)
  have yl := XG2.lt
  clear x0 x1 x2 xl XG1 XG XG2
  go_wp2_with fail
  refine (l12Loops_any _ _ _ _ _ _ _ _ _ g b1 _ _ _ l br _ (t1.bel roadE hB2) H0.out H1.out hP (hI.bel intE hB2) HL.out hm hs).mono ?_
  rintro e w3 ⟨rfl, hb3⟩
  clear y0 y1 y2 yl
  rw [HR.out]
  go_wp2
  go_ret
  exact ⟨rfl, bel_step hB2 hb3⟩
end Go.Proofs.Ytbfaofgdnobheaa
