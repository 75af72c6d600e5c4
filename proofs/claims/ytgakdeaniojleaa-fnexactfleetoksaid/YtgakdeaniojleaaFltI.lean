/-
  Whether a fleet can be, in the program and in the model: contracts.
-/
import Derived.Test.YtgakdeaniojleaaFltO
import Derived.Test.YtgakdeaniojleaaGphC
import Derived.Test.YtgakdeaniojleaaGphS
namespace Go.Proofs.Ytgakdeaniojleaa
open Go.RowKit Go.Maps

theorem graphOkT_r (v : Value) (g : GraphD) (bs : List Nat) (r : Bool) (w : World) (hV : GphV w v g bs) (hQ : GphQ g) (h : bP (graphP g) = r) :
    Calls Try.prog 22 #[v] w fun e w' => e = .returned (.bool r) ∧ Bel w w' := by
  subst h; exact graphOk_any v g bs w hV hQ
theorem specGraphOkT_r (v : Value) (g : GraphD) (bs : List Nat) (r : Bool) (w : World) (hV : GphV w v g bs) (hQ : GphQ g) (h : bP (graphP g) = r) :
    Calls Try.prog 16 #[v] w fun e w' => e = .returned (.bool r) ∧ Bel w w' := by
  subst h; exact specGraphOk_any v g bs w hV hQ
theorem upTo_r (x m : Int) (r : Bool) (w : World) (h : upB x m = r) :
    Calls Try.prog 24 #[.int .i64 x, .int .i64 m] w fun e w' => e = .returned (.bool r) ∧ w' = w := by
  by_cases h0 : 0 ≤ x
  · by_cases h1 : x ≤ m
    · obtain rfl : r = true := by rw [← h]; simp [upB, h0, h1]
      clear h
      go_enter Try.func24, Try.ntmps24
      go_wp2
      go_ret
      exact ⟨rfl, rfl⟩
    · obtain rfl : r = false := by rw [← h]; simp [upB, h1]
      clear h
      go_enter Try.func24, Try.ntmps24
      go_wp2
      go_ret
      exact ⟨rfl, rfl⟩
  · obtain rfl : r = false := by rw [← h]; simp [upB, h0]
    clear h
    go_enter Try.func24, Try.ntmps24
    go_wp2
    go_ret
    exact ⟨rfl, rfl⟩

theorem spotIs_r (a0 : Option Addr) (n0 c0 : Nat) (a1 : Option Addr) (n1 c1 : Nat) (a2 : Option Addr) (n2 c2 : Nat) (x : Int) (r : Bool) (w : World) (h : inN n0 x = r) :
    Calls Try.prog 17 #[gphV a0 n0 c0 a1 n1 c1 a2 n2 c2, .int .i64 x] w fun e w' => e = .returned (.bool r) ∧ Bel w w' := by
  have hB : Bel w (w.alloc (.cells #[.slice a0 n0 c0, .slice a1 n1 c1, .slice a2 n2 c2] 37)) := bel_alloc (Bel.refl _) _
  by_cases h1 : 0 ≤ x
  · by_cases h2 : x < n0
    · obtain rfl : r = true := by rw [← h]; exact inN_iff.2 ⟨h1, h2⟩
      clear h
      go_enter Try.func17, Try.ntmps17
      go_wp2
      go_ret
      exact ⟨rfl, hB⟩
    · obtain rfl : r = false := by rw [← h]; exact inN_not.2 fun h => h2 h.2
      clear h
      go_enter Try.func17, Try.ntmps17
      go_wp2
      go_ret
      exact ⟨rfl, hB⟩
  · obtain rfl : r = false := by rw [← h]; exact inN_not.2 fun h => h1 h.1
    clear h
    go_enter Try.func17, Try.ntmps17
    go_wp2
    go_ret
    exact ⟨rfl, hB⟩

set_option maxRecDepth 100000 in
set_option maxHeartbeats 2000000 in
theorem taskOk_r (a0 : Option Addr) (n0 c0 : Nat) (a1 : Option Addr) (n1 c1 : Nat) (a2 : Option Addr) (n2 c2 : Nat) (d : TaskD) (r : Bool) (w : World) (h : taskB n0 d = r) :
    Calls Try.prog 26 #[gphV a0 n0 c0 a1 n1 c1 a2 n2 c2, tkv5 d] w fun e w' => e = .returned (.bool r) ∧ Bel w w' := by
  subst h
  have hB : Bel w ((w.alloc (.cells #[.slice a0 n0 c0, .slice a1 n1 c1, .slice a2 n2 c2] 37)).alloc (.cells #[.int .i64 d.sp, .int .i64 d.ld, .int .i64 d.op, .int .i64 d.cl, .int .i64 d.st] 53)) := bel_alloc (bel_alloc (Bel.refl _) _) _
  rcases Bool.eq_false_or_eq_true (inN n0 d.sp) with k0 | k0
  · skip
    rcases Bool.eq_false_or_eq_true (upB d.ld 1000) with k1 | k1
    · skip
      rcases Bool.eq_false_or_eq_true (upB d.op d.cl) with k2 | k2
      · skip
        by_cases k3 : d.cl ≤ 1000000
        · have e3 := decide_eq_true k3
          rcases Bool.eq_false_or_eq_true (upB d.st 100000) with k4 | k4
          · skip
            have HR : Hid (true = taskB n0 d) := (by unfold taskB; rw [k0, k1, k2, e3, k4] <;> simp : true = taskB n0 d)
            have q0 := fun w => inSpot_r d.sp a0 n0 c0 _ w k0
            have q1 := fun w => upTo_r d.ld 1000 _ w k1
            have q2 := fun w => upTo_r d.op d.cl _ w k2
            have q4 := fun w => upTo_r d.st 100000 _ w k4
            go_enter Try.func26, Try.ntmps26
            go_wp2_with (first | (go_at_call 23; with_reducible refine (q0 _).mono ?_; rintro e w' ⟨rfl, rfl⟩) | (go_at_call 24; with_reducible refine (q1 _).mono ?_; rintro e w' ⟨rfl, rfl⟩) | (go_at_call 24; with_reducible refine (q2 _).mono ?_; rintro e w' ⟨rfl, rfl⟩) | (go_at_call 24; with_reducible refine (q4 _).mono ?_; rintro e w' ⟨rfl, rfl⟩))
            go_ret
            first | exact ⟨ret_bl HR.out, hB⟩ | exact ⟨ret_bl (by rw [← HR.out]; simp; omega), hB⟩
          · skip
            have HR : Hid (false = taskB n0 d) := (by unfold taskB; rw [k0, k1, k2, e3, k4] <;> simp : false = taskB n0 d)
            have q0 := fun w => inSpot_r d.sp a0 n0 c0 _ w k0
            have q1 := fun w => upTo_r d.ld 1000 _ w k1
            have q2 := fun w => upTo_r d.op d.cl _ w k2
            have q4 := fun w => upTo_r d.st 100000 _ w k4
            go_enter Try.func26, Try.ntmps26
            go_wp2_with (first | (go_at_call 23; with_reducible refine (q0 _).mono ?_; rintro e w' ⟨rfl, rfl⟩) | (go_at_call 24; with_reducible refine (q1 _).mono ?_; rintro e w' ⟨rfl, rfl⟩) | (go_at_call 24; with_reducible refine (q2 _).mono ?_; rintro e w' ⟨rfl, rfl⟩) | (go_at_call 24; with_reducible refine (q4 _).mono ?_; rintro e w' ⟨rfl, rfl⟩))
            go_ret
            first | exact ⟨ret_bl HR.out, hB⟩ | exact ⟨ret_bl (by rw [← HR.out]; simp; omega), hB⟩
        · have e3 := decide_eq_false k3
          have HR : Hid (false = taskB n0 d) := (by unfold taskB; rw [k0, k1, k2, e3] <;> simp : false = taskB n0 d)
          have q0 := fun w => inSpot_r d.sp a0 n0 c0 _ w k0
          have q1 := fun w => upTo_r d.ld 1000 _ w k1
          have q2 := fun w => upTo_r d.op d.cl _ w k2
          go_enter Try.func26, Try.ntmps26
          go_wp2_with (first | (go_at_call 23; with_reducible refine (q0 _).mono ?_; rintro e w' ⟨rfl, rfl⟩) | (go_at_call 24; with_reducible refine (q1 _).mono ?_; rintro e w' ⟨rfl, rfl⟩) | (go_at_call 24; with_reducible refine (q2 _).mono ?_; rintro e w' ⟨rfl, rfl⟩))
          go_ret
          first | exact ⟨ret_bl HR.out, hB⟩ | exact ⟨ret_bl (by rw [← HR.out]; simp; omega), hB⟩
      · skip
        have HR : Hid (false = taskB n0 d) := (by unfold taskB; rw [k0, k1, k2] <;> simp : false = taskB n0 d)
        have q0 := fun w => inSpot_r d.sp a0 n0 c0 _ w k0
        have q1 := fun w => upTo_r d.ld 1000 _ w k1
        have q2 := fun w => upTo_r d.op d.cl _ w k2
        go_enter Try.func26, Try.ntmps26
        go_wp2_with (first | (go_at_call 23; with_reducible refine (q0 _).mono ?_; rintro e w' ⟨rfl, rfl⟩) | (go_at_call 24; with_reducible refine (q1 _).mono ?_; rintro e w' ⟨rfl, rfl⟩) | (go_at_call 24; with_reducible refine (q2 _).mono ?_; rintro e w' ⟨rfl, rfl⟩))
        go_ret
        first | exact ⟨ret_bl HR.out, hB⟩ | exact ⟨ret_bl (by rw [← HR.out]; simp; omega), hB⟩
    · skip
      have HR : Hid (false = taskB n0 d) := (by unfold taskB; rw [k0, k1] <;> simp : false = taskB n0 d)
      have q0 := fun w => inSpot_r d.sp a0 n0 c0 _ w k0
      have q1 := fun w => upTo_r d.ld 1000 _ w k1
      go_enter Try.func26, Try.ntmps26
      go_wp2_with (first | (go_at_call 23; with_reducible refine (q0 _).mono ?_; rintro e w' ⟨rfl, rfl⟩) | (go_at_call 24; with_reducible refine (q1 _).mono ?_; rintro e w' ⟨rfl, rfl⟩))
      go_ret
      first | exact ⟨ret_bl HR.out, hB⟩ | exact ⟨ret_bl (by rw [← HR.out]; simp; omega), hB⟩
  · skip
    have HR : Hid (false = taskB n0 d) := (by unfold taskB; rw [k0] <;> simp : false = taskB n0 d)
    have q0 := fun w => inSpot_r d.sp a0 n0 c0 _ w k0
    go_enter Try.func26, Try.ntmps26
    go_wp2_with (first | (go_at_call 23; with_reducible refine (q0 _).mono ?_; rintro e w' ⟨rfl, rfl⟩))
    go_ret
    first | exact ⟨ret_bl HR.out, hB⟩ | exact ⟨ret_bl (by rw [← HR.out]; simp; omega), hB⟩

theorem allB_no {p : TaskD → Bool} {l : List TaskD} {k : Nat} (h : k < l.length) (e : p l[k] = false) : l.all p = false := by
  rw [List.all_eq_false]; exact ⟨l[k], List.getElem_mem h, by rw [e]; simp⟩
theorem allB_yes {p : TaskD → Bool} {l : List TaskD} (h : ∀ i (hi : i < l.length), p l[i] = true) : l.all p = true := by
  rw [List.all_eq_true]; intro x hx; obtain ⟨i, hi, rfl⟩ := List.getElem_of_mem hx; exact h i hi

set_option maxRecDepth 100000 in
set_option maxHeartbeats 2000000 in
theorem allT_any (a0 : Option Addr) (n0 c0 : Nat) (a1 : Option Addr) (n1 c1 : Nat) (a2 : Option Addr) (n2 c2 : Nat) (a : Option Addr) (n c : Nat) (l : List TaskD) (bs : List Nat) (w : World) (hT : TaskL w a l bs) (hn : l.length = n) (hm : n ≤ 1048576) :
    Calls Try.prog 25 #[.slice a n c, .func (.func 26) #[gphV a0 n0 c0 a1 n1 c1 a2 n2 c2] #[]] w fun e w' => e = .returned (.bool (l.all (taskB n0))) ∧ Bel w w' := by
  have Hn : Hid (l.length = n) := hn
  clear hn
  go_enter Try.func25, Try.ntmps25
  go_wp2
  go_loopw [6, 9] (fun _ i wr => ∃ k : Nat, k ≤ n ∧ i = .int .i64 k ∧ (∀ j (h : j < l.length), j < k → taskB n0 l[j] = true) ∧ Bel w wr) (fun _ i _ => n - (intOf i).toNat)
  case atStart => exact ⟨0, Nat.zero_le _, rfl, fun j _ hj => absurd hj (Nat.not_lt_zero _), Bel.refl _⟩
  case round =>
    obtain ⟨k, hk, rfl, hall, hbel⟩ := hrel
    have H : Hid (∀ j (h : j < l.length), j < k → taskB n0 l[j] = true) := hall
    clear hall
    by_cases hlt : k < n
    · have hkl : k < l.length := by rw [Hn.out]; exact hlt
      obtain ⟨b, off, f, rfl, hb, hx⟩ := (hT.bel taskE hbel).out hkl
      obtain ⟨_, i0, i1, i2, i3, i4, c0, c1, c2, c3, c4⟩ := hx k hkl
      obtain ⟨d, Hd⟩ : ∃ d, Hid (d = l[k]) := ⟨_, (rfl : l[k] = _)⟩
      rw [← Hd.out] at c0 c1 c2 c3 c4
      clear hx hT i0 i1 i2 i3 i4
      rcases Bool.eq_false_or_eq_true (taskB n0 d) with hf | hf
      · have HA : Hid (taskB n0 l[k] = true) := by rw [← Hd.out]; exact hf
        go_wp2_with fail
        refine (taskOk_r _ _ _ _ _ _ _ _ _ d true _ hf).mono ?_
        rintro e w1 ⟨rfl, hb1⟩
        have hB1 := bel_step (bel_alloc hbel _) hb1
        clear c0 c1 c2 c3 c4 hb
        go_wp2
        go_roundw
        case rel => exact ⟨k + 1, by omega, by go_num, fun j h hj => by
                        (by_cases e : j = k)
                        · subst e; exact HA.out
                        · exact H.out j h (by omega), hB1⟩
        case measure => simp [intOf]; omega
      · have HF : Hid (false = l.all (taskB n0)) := (allB_no hkl (by rw [← Hd.out]; exact hf)).symm
        go_wp2_with fail
        refine (taskOk_r _ _ _ _ _ _ _ _ _ d false _ hf).mono ?_
        rintro e w1 ⟨rfl, hb1⟩
        have hB1 := bel_step (bel_alloc hbel _) hb1
        clear c0 c1 c2 c3 c4 hb
        go_wp2
        go_ret
        exact ⟨ret_bl HF.out, hB1⟩
    · have HT : Hid (true = l.all (taskB n0)) := (allB_yes fun i h => H.out i h (by rw [Hn.out] at h; omega)).symm
      go_wp2
      go_ret
      exact ⟨ret_bl HT.out, hbel⟩

theorem allT_r (a0 : Option Addr) (n0 c0 : Nat) (a1 : Option Addr) (n1 c1 : Nat) (a2 : Option Addr) (n2 c2 : Nat) (a : Option Addr) (n c : Nat) (l : List TaskD) (bs : List Nat) (r : Bool) (w : World) (hT : TaskL w a l bs) (hn : l.length = n) (hm : n ≤ 1048576) (h : l.all (taskB n0) = r) :
    Calls Try.prog 25 #[.slice a n c, .func (.func 26) #[gphV a0 n0 c0 a1 n1 c1 a2 n2 c2] #[]] w fun e w' => e = .returned (.bool r) ∧ Bel w w' := by
  subst h; exact allT_any a0 n0 c0 a1 n1 c1 a2 n2 c2 a n c l bs w hT hn hm

set_option maxRecDepth 100000 in
set_option maxHeartbeats 4000000 in
theorem fleetOk_any (v : Value) (g : GraphD) (bg : List Nat) (f : FleetD) (a : Option Addr) (nt c : Nat) (bf : List Nat) (w : World) (hV : GphV w v g bg) (hQ : GphQ g) (hT : TaskL w a f.tasks bf) (hn : f.tasks.length = nt) (hm : nt ≤ 1048576) :
    Calls Try.prog 9 #[v, fltV f a nt c] w fun e w' => e = .returned (.bool (fleetB g f)) ∧ Bel w w' := by
  have Hn : Hid (f.tasks.length = nt) := hn
  clear hn
  have hV' := hV
  obtain ⟨a0, c0, a1, c1, a2, c2, b0, b1, b2, _, rfl, _, _, _⟩ := hV
  obtain ⟨n0, H0⟩ : ∃ n, Hid (g.places.length = n) := ⟨_, (rfl : g.places.length = _)⟩
  obtain ⟨n1, H1⟩ : ∃ n, Hid (g.roads.length = n) := ⟨_, (rfl : g.roads.length = _)⟩
  obtain ⟨n2, H2⟩ : ∃ n, Hid (g.bans.length = n) := ⟨_, (rfl : g.bans.length = _)⟩
  rw [H0.out, H1.out, H2.out] at hV' ⊢
  have hB0 : Bel w ((w.alloc (.cells #[.slice a0 n0 c0, .slice a1 n1 c1, .slice a2 n2 c2] 37)).alloc (.cells #[.int .i64 f.depot, .int .i64 f.start, .int .i64 f.veh, .int .i64 f.room, .slice a nt c] 41)) := bel_alloc (bel_alloc (Bel.refl _) _) _
  have X0 : Blk ((w.alloc (.cells #[.slice a0 n0 c0, .slice a1 n1 c1, .slice a2 n2 c2] 37)).alloc (.cells #[.int .i64 f.depot, .int .i64 f.start, .int .i64 f.veh, .int .i64 f.room, .slice a nt c] 41)) w.heap.size [.slice a0 n0 c0, .slice a1 n1 c1, .slice a2 n2 c2] := (Blk.new w [.slice a0 n0 c0, .slice a1 n1 c1, .slice a2 n2 c2] 37).bel (bel_alloc (Bel.refl _) _)
  have Y0 : Blk ((w.alloc (.cells #[.slice a0 n0 c0, .slice a1 n1 c1, .slice a2 n2 c2] 37)).alloc (.cells #[.int .i64 f.depot, .int .i64 f.start, .int .i64 f.veh, .int .i64 f.room, .slice a nt c] 41)) (w.heap.size + 1) [.int .i64 f.depot, .int .i64 f.start, .int .i64 f.veh, .int .i64 f.room, .slice a nt c] := Blk.new1 w _ [.int .i64 f.depot, .int .i64 f.start, .int .i64 f.veh, .int .i64 f.room, .slice a nt c] 41
  rcases Bool.eq_false_or_eq_true (bP (graphP g)) with k0 | k0
  · skip
    rcases Bool.eq_false_or_eq_true (inN n0 f.depot) with k1 | k1
    · skip
      rcases Bool.eq_false_or_eq_true (upB f.start 1000000) with k2 | k2
      · skip
        by_cases k3 : 1 ≤ f.veh
        · have e3 := decide_eq_true k3
          by_cases k4 : f.veh ≤ 4
          · have e4 := decide_eq_true k4
            rcases Bool.eq_false_or_eq_true (upB f.room 10000) with k5 | k5
            · skip
              by_cases k6 : nt ≤ 6
              · have e6 := decide_eq_true k6
                rcases Bool.eq_false_or_eq_true (f.tasks.all (taskB n0)) with k7 | k7
                · skip
                  have HR : Hid (true = fleetB g f) := (by unfold fleetB; rw [H0.out, Hn.out, k0, k1, k2, e3, e4, k5, e6, k7] <;> simp : true = fleetB g f)
                  have k6i : (nt : Int) ≤ 6 := by omega
                  have q1 := fun w => inSpot_r f.depot a0 n0 c0 _ w k1
                  have q2 := fun w => upTo_r f.start 1000000 _ w k2
                  have q5 := fun w => upTo_r f.room 10000 _ w k5
                  go_enter Try.func9, Try.ntmps9
                  go_wp2_with fail
                  refine (graphOkT_r _ g bg _ _ (hV'.bel hB0) hQ k0).mono ?_
                  rintro e w1 ⟨rfl, hb1⟩
                  have hB1 := bel_step hB0 hb1
                  have X1 := X0.bel hb1
                  have Y1 := Y0.bel hb1
                  have x10 : w1.cell? ⟨w.heap.size, 0, none⟩ = some (.slice a0 n0 c0) := X1.cell 0 (by simp)
                  have x11 : w1.cell? ⟨w.heap.size, 1, none⟩ = some (.slice a1 n1 c1) := X1.cell 1 (by simp)
                  have x12 : w1.cell? ⟨w.heap.size, 2, none⟩ = some (.slice a2 n2 c2) := X1.cell 2 (by simp)
                  have y10 : w1.cell? ⟨w.heap.size + 1, 0, none⟩ = some (.int .i64 f.depot) := Y1.cell 0 (by simp)
                  have y11 : w1.cell? ⟨w.heap.size + 1, 1, none⟩ = some (.int .i64 f.start) := Y1.cell 1 (by simp)
                  have y12 : w1.cell? ⟨w.heap.size + 1, 2, none⟩ = some (.int .i64 f.veh) := Y1.cell 2 (by simp)
                  have y13 : w1.cell? ⟨w.heap.size + 1, 3, none⟩ = some (.int .i64 f.room) := Y1.cell 3 (by simp)
                  have y14 : w1.cell? ⟨w.heap.size + 1, 4, none⟩ = some (.slice a nt c) := Y1.cell 4 (by simp)
                  have xl1 := X1.lt
                  have yl1 := Y1.lt
                  go_wp2_with (first | (go_at_call 23; with_reducible refine (q1 _).mono ?_; rintro e w' ⟨rfl, rfl⟩) | (go_at_call 24; with_reducible refine (q2 _).mono ?_; rintro e w' ⟨rfl, rfl⟩) | (go_at_call 24; with_reducible refine (q5 _).mono ?_; rintro e w' ⟨rfl, rfl⟩) | (go_at_call 25; refine (allT_r _ _ _ _ _ _ _ _ _ _ _ _ f.tasks bf _ _ (hT.bel taskE hB1) Hn.out hm k7).mono ?_; rintro e w2 ⟨rfl, hb2⟩))
                  go_ret
                  exact ⟨ret_bl HR.out, bel_step hB1 (by assumption)⟩
                · skip
                  have HR : Hid (false = fleetB g f) := (by unfold fleetB; rw [H0.out, Hn.out, k0, k1, k2, e3, e4, k5, e6, k7] <;> simp : false = fleetB g f)
                  have k6i : (nt : Int) ≤ 6 := by omega
                  have q1 := fun w => inSpot_r f.depot a0 n0 c0 _ w k1
                  have q2 := fun w => upTo_r f.start 1000000 _ w k2
                  have q5 := fun w => upTo_r f.room 10000 _ w k5
                  go_enter Try.func9, Try.ntmps9
                  go_wp2_with fail
                  refine (graphOkT_r _ g bg _ _ (hV'.bel hB0) hQ k0).mono ?_
                  rintro e w1 ⟨rfl, hb1⟩
                  have hB1 := bel_step hB0 hb1
                  have X1 := X0.bel hb1
                  have Y1 := Y0.bel hb1
                  have x10 : w1.cell? ⟨w.heap.size, 0, none⟩ = some (.slice a0 n0 c0) := X1.cell 0 (by simp)
                  have x11 : w1.cell? ⟨w.heap.size, 1, none⟩ = some (.slice a1 n1 c1) := X1.cell 1 (by simp)
                  have x12 : w1.cell? ⟨w.heap.size, 2, none⟩ = some (.slice a2 n2 c2) := X1.cell 2 (by simp)
                  have y10 : w1.cell? ⟨w.heap.size + 1, 0, none⟩ = some (.int .i64 f.depot) := Y1.cell 0 (by simp)
                  have y11 : w1.cell? ⟨w.heap.size + 1, 1, none⟩ = some (.int .i64 f.start) := Y1.cell 1 (by simp)
                  have y12 : w1.cell? ⟨w.heap.size + 1, 2, none⟩ = some (.int .i64 f.veh) := Y1.cell 2 (by simp)
                  have y13 : w1.cell? ⟨w.heap.size + 1, 3, none⟩ = some (.int .i64 f.room) := Y1.cell 3 (by simp)
                  have y14 : w1.cell? ⟨w.heap.size + 1, 4, none⟩ = some (.slice a nt c) := Y1.cell 4 (by simp)
                  have xl1 := X1.lt
                  have yl1 := Y1.lt
                  go_wp2_with (first | (go_at_call 23; with_reducible refine (q1 _).mono ?_; rintro e w' ⟨rfl, rfl⟩) | (go_at_call 24; with_reducible refine (q2 _).mono ?_; rintro e w' ⟨rfl, rfl⟩) | (go_at_call 24; with_reducible refine (q5 _).mono ?_; rintro e w' ⟨rfl, rfl⟩) | (go_at_call 25; refine (allT_r _ _ _ _ _ _ _ _ _ _ _ _ f.tasks bf _ _ (hT.bel taskE hB1) Hn.out hm k7).mono ?_; rintro e w2 ⟨rfl, hb2⟩))
                  go_ret
                  exact ⟨ret_bl HR.out, bel_step hB1 (by assumption)⟩
              · have e6 := decide_eq_false k6
                have HR : Hid (false = fleetB g f) := (by unfold fleetB; rw [H0.out, Hn.out, k0, k1, k2, e3, e4, k5, e6] <;> simp : false = fleetB g f)
                have k6i : ¬ (nt : Int) ≤ 6 := by omega
                have q1 := fun w => inSpot_r f.depot a0 n0 c0 _ w k1
                have q2 := fun w => upTo_r f.start 1000000 _ w k2
                have q5 := fun w => upTo_r f.room 10000 _ w k5
                go_enter Try.func9, Try.ntmps9
                go_wp2_with fail
                refine (graphOkT_r _ g bg _ _ (hV'.bel hB0) hQ k0).mono ?_
                rintro e w1 ⟨rfl, hb1⟩
                have hB1 := bel_step hB0 hb1
                have X1 := X0.bel hb1
                have Y1 := Y0.bel hb1
                have x10 : w1.cell? ⟨w.heap.size, 0, none⟩ = some (.slice a0 n0 c0) := X1.cell 0 (by simp)
                have x11 : w1.cell? ⟨w.heap.size, 1, none⟩ = some (.slice a1 n1 c1) := X1.cell 1 (by simp)
                have x12 : w1.cell? ⟨w.heap.size, 2, none⟩ = some (.slice a2 n2 c2) := X1.cell 2 (by simp)
                have y10 : w1.cell? ⟨w.heap.size + 1, 0, none⟩ = some (.int .i64 f.depot) := Y1.cell 0 (by simp)
                have y11 : w1.cell? ⟨w.heap.size + 1, 1, none⟩ = some (.int .i64 f.start) := Y1.cell 1 (by simp)
                have y12 : w1.cell? ⟨w.heap.size + 1, 2, none⟩ = some (.int .i64 f.veh) := Y1.cell 2 (by simp)
                have y13 : w1.cell? ⟨w.heap.size + 1, 3, none⟩ = some (.int .i64 f.room) := Y1.cell 3 (by simp)
                have y14 : w1.cell? ⟨w.heap.size + 1, 4, none⟩ = some (.slice a nt c) := Y1.cell 4 (by simp)
                have xl1 := X1.lt
                have yl1 := Y1.lt
                go_wp2_with (first | (go_at_call 23; with_reducible refine (q1 _).mono ?_; rintro e w' ⟨rfl, rfl⟩) | (go_at_call 24; with_reducible refine (q2 _).mono ?_; rintro e w' ⟨rfl, rfl⟩) | (go_at_call 24; with_reducible refine (q5 _).mono ?_; rintro e w' ⟨rfl, rfl⟩))
                go_ret
                first | exact ⟨ret_bl HR.out, hB1⟩ | exact ⟨ret_bl (by rw [← HR.out]; simp; omega), hB1⟩
            · skip
              have HR : Hid (false = fleetB g f) := (by unfold fleetB; rw [H0.out, k0, k1, k2, e3, e4, k5] <;> simp : false = fleetB g f)
              have q1 := fun w => inSpot_r f.depot a0 n0 c0 _ w k1
              have q2 := fun w => upTo_r f.start 1000000 _ w k2
              have q5 := fun w => upTo_r f.room 10000 _ w k5
              go_enter Try.func9, Try.ntmps9
              go_wp2_with fail
              refine (graphOkT_r _ g bg _ _ (hV'.bel hB0) hQ k0).mono ?_
              rintro e w1 ⟨rfl, hb1⟩
              have hB1 := bel_step hB0 hb1
              have X1 := X0.bel hb1
              have Y1 := Y0.bel hb1
              have x10 : w1.cell? ⟨w.heap.size, 0, none⟩ = some (.slice a0 n0 c0) := X1.cell 0 (by simp)
              have x11 : w1.cell? ⟨w.heap.size, 1, none⟩ = some (.slice a1 n1 c1) := X1.cell 1 (by simp)
              have x12 : w1.cell? ⟨w.heap.size, 2, none⟩ = some (.slice a2 n2 c2) := X1.cell 2 (by simp)
              have y10 : w1.cell? ⟨w.heap.size + 1, 0, none⟩ = some (.int .i64 f.depot) := Y1.cell 0 (by simp)
              have y11 : w1.cell? ⟨w.heap.size + 1, 1, none⟩ = some (.int .i64 f.start) := Y1.cell 1 (by simp)
              have y12 : w1.cell? ⟨w.heap.size + 1, 2, none⟩ = some (.int .i64 f.veh) := Y1.cell 2 (by simp)
              have y13 : w1.cell? ⟨w.heap.size + 1, 3, none⟩ = some (.int .i64 f.room) := Y1.cell 3 (by simp)
              have y14 : w1.cell? ⟨w.heap.size + 1, 4, none⟩ = some (.slice a nt c) := Y1.cell 4 (by simp)
              have xl1 := X1.lt
              have yl1 := Y1.lt
              go_wp2_with (first | (go_at_call 23; with_reducible refine (q1 _).mono ?_; rintro e w' ⟨rfl, rfl⟩) | (go_at_call 24; with_reducible refine (q2 _).mono ?_; rintro e w' ⟨rfl, rfl⟩) | (go_at_call 24; with_reducible refine (q5 _).mono ?_; rintro e w' ⟨rfl, rfl⟩))
              go_ret
              first | exact ⟨ret_bl HR.out, hB1⟩ | exact ⟨ret_bl (by rw [← HR.out]; simp; omega), hB1⟩
          · have e4 := decide_eq_false k4
            have HR : Hid (false = fleetB g f) := (by unfold fleetB; rw [H0.out, k0, k1, k2, e3, e4] <;> simp : false = fleetB g f)
            have q1 := fun w => inSpot_r f.depot a0 n0 c0 _ w k1
            have q2 := fun w => upTo_r f.start 1000000 _ w k2
            go_enter Try.func9, Try.ntmps9
            go_wp2_with fail
            refine (graphOkT_r _ g bg _ _ (hV'.bel hB0) hQ k0).mono ?_
            rintro e w1 ⟨rfl, hb1⟩
            have hB1 := bel_step hB0 hb1
            have X1 := X0.bel hb1
            have Y1 := Y0.bel hb1
            have x10 : w1.cell? ⟨w.heap.size, 0, none⟩ = some (.slice a0 n0 c0) := X1.cell 0 (by simp)
            have x11 : w1.cell? ⟨w.heap.size, 1, none⟩ = some (.slice a1 n1 c1) := X1.cell 1 (by simp)
            have x12 : w1.cell? ⟨w.heap.size, 2, none⟩ = some (.slice a2 n2 c2) := X1.cell 2 (by simp)
            have y10 : w1.cell? ⟨w.heap.size + 1, 0, none⟩ = some (.int .i64 f.depot) := Y1.cell 0 (by simp)
            have y11 : w1.cell? ⟨w.heap.size + 1, 1, none⟩ = some (.int .i64 f.start) := Y1.cell 1 (by simp)
            have y12 : w1.cell? ⟨w.heap.size + 1, 2, none⟩ = some (.int .i64 f.veh) := Y1.cell 2 (by simp)
            have y13 : w1.cell? ⟨w.heap.size + 1, 3, none⟩ = some (.int .i64 f.room) := Y1.cell 3 (by simp)
            have y14 : w1.cell? ⟨w.heap.size + 1, 4, none⟩ = some (.slice a nt c) := Y1.cell 4 (by simp)
            have xl1 := X1.lt
            have yl1 := Y1.lt
            go_wp2_with (first | (go_at_call 23; with_reducible refine (q1 _).mono ?_; rintro e w' ⟨rfl, rfl⟩) | (go_at_call 24; with_reducible refine (q2 _).mono ?_; rintro e w' ⟨rfl, rfl⟩))
            go_ret
            first | exact ⟨ret_bl HR.out, hB1⟩ | exact ⟨ret_bl (by rw [← HR.out]; simp; omega), hB1⟩
        · have e3 := decide_eq_false k3
          have HR : Hid (false = fleetB g f) := (by unfold fleetB; rw [H0.out, k0, k1, k2, e3] <;> simp : false = fleetB g f)
          have q1 := fun w => inSpot_r f.depot a0 n0 c0 _ w k1
          have q2 := fun w => upTo_r f.start 1000000 _ w k2
          go_enter Try.func9, Try.ntmps9
          go_wp2_with fail
          refine (graphOkT_r _ g bg _ _ (hV'.bel hB0) hQ k0).mono ?_
          rintro e w1 ⟨rfl, hb1⟩
          have hB1 := bel_step hB0 hb1
          have X1 := X0.bel hb1
          have Y1 := Y0.bel hb1
          have x10 : w1.cell? ⟨w.heap.size, 0, none⟩ = some (.slice a0 n0 c0) := X1.cell 0 (by simp)
          have x11 : w1.cell? ⟨w.heap.size, 1, none⟩ = some (.slice a1 n1 c1) := X1.cell 1 (by simp)
          have x12 : w1.cell? ⟨w.heap.size, 2, none⟩ = some (.slice a2 n2 c2) := X1.cell 2 (by simp)
          have y10 : w1.cell? ⟨w.heap.size + 1, 0, none⟩ = some (.int .i64 f.depot) := Y1.cell 0 (by simp)
          have y11 : w1.cell? ⟨w.heap.size + 1, 1, none⟩ = some (.int .i64 f.start) := Y1.cell 1 (by simp)
          have y12 : w1.cell? ⟨w.heap.size + 1, 2, none⟩ = some (.int .i64 f.veh) := Y1.cell 2 (by simp)
          have y13 : w1.cell? ⟨w.heap.size + 1, 3, none⟩ = some (.int .i64 f.room) := Y1.cell 3 (by simp)
          have y14 : w1.cell? ⟨w.heap.size + 1, 4, none⟩ = some (.slice a nt c) := Y1.cell 4 (by simp)
          have xl1 := X1.lt
          have yl1 := Y1.lt
          go_wp2_with (first | (go_at_call 23; with_reducible refine (q1 _).mono ?_; rintro e w' ⟨rfl, rfl⟩) | (go_at_call 24; with_reducible refine (q2 _).mono ?_; rintro e w' ⟨rfl, rfl⟩))
          go_ret
          first | exact ⟨ret_bl HR.out, hB1⟩ | exact ⟨ret_bl (by rw [← HR.out]; simp; omega), hB1⟩
      · skip
        have HR : Hid (false = fleetB g f) := (by unfold fleetB; rw [H0.out, k0, k1, k2] <;> simp : false = fleetB g f)
        have q1 := fun w => inSpot_r f.depot a0 n0 c0 _ w k1
        have q2 := fun w => upTo_r f.start 1000000 _ w k2
        go_enter Try.func9, Try.ntmps9
        go_wp2_with fail
        refine (graphOkT_r _ g bg _ _ (hV'.bel hB0) hQ k0).mono ?_
        rintro e w1 ⟨rfl, hb1⟩
        have hB1 := bel_step hB0 hb1
        have X1 := X0.bel hb1
        have Y1 := Y0.bel hb1
        have x10 : w1.cell? ⟨w.heap.size, 0, none⟩ = some (.slice a0 n0 c0) := X1.cell 0 (by simp)
        have x11 : w1.cell? ⟨w.heap.size, 1, none⟩ = some (.slice a1 n1 c1) := X1.cell 1 (by simp)
        have x12 : w1.cell? ⟨w.heap.size, 2, none⟩ = some (.slice a2 n2 c2) := X1.cell 2 (by simp)
        have y10 : w1.cell? ⟨w.heap.size + 1, 0, none⟩ = some (.int .i64 f.depot) := Y1.cell 0 (by simp)
        have y11 : w1.cell? ⟨w.heap.size + 1, 1, none⟩ = some (.int .i64 f.start) := Y1.cell 1 (by simp)
        have y12 : w1.cell? ⟨w.heap.size + 1, 2, none⟩ = some (.int .i64 f.veh) := Y1.cell 2 (by simp)
        have y13 : w1.cell? ⟨w.heap.size + 1, 3, none⟩ = some (.int .i64 f.room) := Y1.cell 3 (by simp)
        have y14 : w1.cell? ⟨w.heap.size + 1, 4, none⟩ = some (.slice a nt c) := Y1.cell 4 (by simp)
        have xl1 := X1.lt
        have yl1 := Y1.lt
        go_wp2_with (first | (go_at_call 23; with_reducible refine (q1 _).mono ?_; rintro e w' ⟨rfl, rfl⟩) | (go_at_call 24; with_reducible refine (q2 _).mono ?_; rintro e w' ⟨rfl, rfl⟩))
        go_ret
        first | exact ⟨ret_bl HR.out, hB1⟩ | exact ⟨ret_bl (by rw [← HR.out]; simp; omega), hB1⟩
    · skip
      have HR : Hid (false = fleetB g f) := (by unfold fleetB; rw [H0.out, k0, k1] <;> simp : false = fleetB g f)
      have q1 := fun w => inSpot_r f.depot a0 n0 c0 _ w k1
      go_enter Try.func9, Try.ntmps9
      go_wp2_with fail
      refine (graphOkT_r _ g bg _ _ (hV'.bel hB0) hQ k0).mono ?_
      rintro e w1 ⟨rfl, hb1⟩
      have hB1 := bel_step hB0 hb1
      have X1 := X0.bel hb1
      have Y1 := Y0.bel hb1
      have x10 : w1.cell? ⟨w.heap.size, 0, none⟩ = some (.slice a0 n0 c0) := X1.cell 0 (by simp)
      have x11 : w1.cell? ⟨w.heap.size, 1, none⟩ = some (.slice a1 n1 c1) := X1.cell 1 (by simp)
      have x12 : w1.cell? ⟨w.heap.size, 2, none⟩ = some (.slice a2 n2 c2) := X1.cell 2 (by simp)
      have y10 : w1.cell? ⟨w.heap.size + 1, 0, none⟩ = some (.int .i64 f.depot) := Y1.cell 0 (by simp)
      have y11 : w1.cell? ⟨w.heap.size + 1, 1, none⟩ = some (.int .i64 f.start) := Y1.cell 1 (by simp)
      have y12 : w1.cell? ⟨w.heap.size + 1, 2, none⟩ = some (.int .i64 f.veh) := Y1.cell 2 (by simp)
      have y13 : w1.cell? ⟨w.heap.size + 1, 3, none⟩ = some (.int .i64 f.room) := Y1.cell 3 (by simp)
      have y14 : w1.cell? ⟨w.heap.size + 1, 4, none⟩ = some (.slice a nt c) := Y1.cell 4 (by simp)
      have xl1 := X1.lt
      have yl1 := Y1.lt
      go_wp2_with (first | (go_at_call 23; with_reducible refine (q1 _).mono ?_; rintro e w' ⟨rfl, rfl⟩))
      go_ret
      first | exact ⟨ret_bl HR.out, hB1⟩ | exact ⟨ret_bl (by rw [← HR.out]; simp; omega), hB1⟩
  · skip
    have HR : Hid (false = fleetB g f) := (by unfold fleetB; rw [k0] <;> simp : false = fleetB g f)
    go_enter Try.func9, Try.ntmps9
    go_wp2_with fail
    refine (graphOkT_r _ g bg _ _ (hV'.bel hB0) hQ k0).mono ?_
    rintro e w1 ⟨rfl, hb1⟩
    have hB1 := bel_step hB0 hb1
    have X1 := X0.bel hb1
    have Y1 := Y0.bel hb1
    have x10 : w1.cell? ⟨w.heap.size, 0, none⟩ = some (.slice a0 n0 c0) := X1.cell 0 (by simp)
    have x11 : w1.cell? ⟨w.heap.size, 1, none⟩ = some (.slice a1 n1 c1) := X1.cell 1 (by simp)
    have x12 : w1.cell? ⟨w.heap.size, 2, none⟩ = some (.slice a2 n2 c2) := X1.cell 2 (by simp)
    have y10 : w1.cell? ⟨w.heap.size + 1, 0, none⟩ = some (.int .i64 f.depot) := Y1.cell 0 (by simp)
    have y11 : w1.cell? ⟨w.heap.size + 1, 1, none⟩ = some (.int .i64 f.start) := Y1.cell 1 (by simp)
    have y12 : w1.cell? ⟨w.heap.size + 1, 2, none⟩ = some (.int .i64 f.veh) := Y1.cell 2 (by simp)
    have y13 : w1.cell? ⟨w.heap.size + 1, 3, none⟩ = some (.int .i64 f.room) := Y1.cell 3 (by simp)
    have y14 : w1.cell? ⟨w.heap.size + 1, 4, none⟩ = some (.slice a nt c) := Y1.cell 4 (by simp)
    have xl1 := X1.lt
    have yl1 := Y1.lt
    go_wp2
    go_ret
    first | exact ⟨ret_bl HR.out, hB1⟩ | exact ⟨ret_bl (by rw [← HR.out]; simp; omega), hB1⟩

set_option maxRecDepth 100000 in
set_option maxHeartbeats 4000000 in
theorem specFleetOk_any (v : Value) (g : GraphD) (bg : List Nat) (f : FleetD) (a : Option Addr) (nt c : Nat) (bf : List Nat) (w : World) (hV : GphV w v g bg) (hQ : GphQ g) (hT : TaskL w a f.tasks bf) (hn : f.tasks.length = nt) (hm : nt ≤ 1048576) :
    Calls Try.prog 6 #[v, fltV f a nt c] w fun e w' => e = .returned (.bool (fleetB g f)) ∧ Bel w w' := by
  have Hn : Hid (f.tasks.length = nt) := hn
  clear hn
  have hV' := hV
  obtain ⟨a0, c0, a1, c1, a2, c2, b0, b1, b2, _, rfl, _, _, _⟩ := hV
  obtain ⟨n0, H0⟩ : ∃ n, Hid (g.places.length = n) := ⟨_, (rfl : g.places.length = _)⟩
  obtain ⟨n1, H1⟩ : ∃ n, Hid (g.roads.length = n) := ⟨_, (rfl : g.roads.length = _)⟩
  obtain ⟨n2, H2⟩ : ∃ n, Hid (g.bans.length = n) := ⟨_, (rfl : g.bans.length = _)⟩
  rw [H0.out, H1.out, H2.out] at hV' ⊢
  have hB0 : Bel w ((w.alloc (.cells #[.slice a0 n0 c0, .slice a1 n1 c1, .slice a2 n2 c2] 37)).alloc (.cells #[.int .i64 f.depot, .int .i64 f.start, .int .i64 f.veh, .int .i64 f.room, .slice a nt c] 41)) := bel_alloc (bel_alloc (Bel.refl _) _) _
  have X0 : Blk ((w.alloc (.cells #[.slice a0 n0 c0, .slice a1 n1 c1, .slice a2 n2 c2] 37)).alloc (.cells #[.int .i64 f.depot, .int .i64 f.start, .int .i64 f.veh, .int .i64 f.room, .slice a nt c] 41)) w.heap.size [.slice a0 n0 c0, .slice a1 n1 c1, .slice a2 n2 c2] := (Blk.new w [.slice a0 n0 c0, .slice a1 n1 c1, .slice a2 n2 c2] 37).bel (bel_alloc (Bel.refl _) _)
  have Y0 : Blk ((w.alloc (.cells #[.slice a0 n0 c0, .slice a1 n1 c1, .slice a2 n2 c2] 37)).alloc (.cells #[.int .i64 f.depot, .int .i64 f.start, .int .i64 f.veh, .int .i64 f.room, .slice a nt c] 41)) (w.heap.size + 1) [.int .i64 f.depot, .int .i64 f.start, .int .i64 f.veh, .int .i64 f.room, .slice a nt c] := Blk.new1 w _ [.int .i64 f.depot, .int .i64 f.start, .int .i64 f.veh, .int .i64 f.room, .slice a nt c] 41
  rcases Bool.eq_false_or_eq_true (bP (graphP g)) with k0 | k0
  · skip
    rcases Bool.eq_false_or_eq_true (inN n0 f.depot) with k1 | k1
    · skip
      by_cases k2 : 0 ≤ f.start
      · have e2 := decide_eq_true k2
        by_cases k3 : f.start ≤ 1000000
        · have e3 := decide_eq_true k3
          by_cases k4 : 1 ≤ f.veh
          · have e4 := decide_eq_true k4
            by_cases k5 : f.veh ≤ 4
            · have e5 := decide_eq_true k5
              by_cases k6 : 0 ≤ f.room
              · have e6 := decide_eq_true k6
                by_cases k7 : f.room ≤ 10000
                · have e7 := decide_eq_true k7
                  by_cases k8 : nt ≤ 6
                  · have e8 := decide_eq_true k8
                    have u2 : upB f.start 1000000 = true := by simp [upB, k2, k3]
                    have u3 : upB f.room 10000 = true := by simp [upB, k6, k7]
                    have HA : Hid (fleetB g f = f.tasks.all (taskB n0)) := (by unfold fleetB; rw [k0, H0.out, k1, u2, e4, e5, u3, Hn.out, e8] <;> simp : fleetB g f = f.tasks.all (taskB n0))
                    have k8i : (nt : Int) ≤ 6 := by omega
                    obtain ⟨R, HRR⟩ : ∃ R, Hid (f.tasks.all (taskB n0) = R) := ⟨_, (rfl : f.tasks.all (taskB n0) = _)⟩
                    rw [HA.out, HRR.out]
                    go_enter Try.func6, Try.ntmps6
                    go_wp2_with fail
                    refine (specGraphOkT_r _ g bg _ _ (hV'.bel hB0) hQ k0).mono ?_
                    rintro e w1 ⟨rfl, hb1⟩
                    have hB1 := bel_step hB0 hb1
                    have X1 := X0.bel hb1
                    have Y1 := Y0.bel hb1
                    have x10 : w1.cell? ⟨w.heap.size, 0, none⟩ = some (.slice a0 n0 c0) := X1.cell 0 (by simp)
                    have x11 : w1.cell? ⟨w.heap.size, 1, none⟩ = some (.slice a1 n1 c1) := X1.cell 1 (by simp)
                    have x12 : w1.cell? ⟨w.heap.size, 2, none⟩ = some (.slice a2 n2 c2) := X1.cell 2 (by simp)
                    have y10 : w1.cell? ⟨w.heap.size + 1, 0, none⟩ = some (.int .i64 f.depot) := Y1.cell 0 (by simp)
                    have y11 : w1.cell? ⟨w.heap.size + 1, 1, none⟩ = some (.int .i64 f.start) := Y1.cell 1 (by simp)
                    have y12 : w1.cell? ⟨w.heap.size + 1, 2, none⟩ = some (.int .i64 f.veh) := Y1.cell 2 (by simp)
                    have y13 : w1.cell? ⟨w.heap.size + 1, 3, none⟩ = some (.int .i64 f.room) := Y1.cell 3 (by simp)
                    have y14 : w1.cell? ⟨w.heap.size + 1, 4, none⟩ = some (.slice a nt c) := Y1.cell 4 (by simp)
                    have xl1 := X1.lt
                    have yl1 := Y1.lt
                    go_wp2_with fail
                    refine (spotIs_r _ _ _ _ _ _ _ _ _ _ _ _ k1).mono ?_
                    rintro e w2 ⟨rfl, hb2⟩
                    have hB2 := bel_step hB1 hb2
                    have X2 := X1.bel hb2
                    have Y2 := Y1.bel hb2
                    have x20 : w2.cell? ⟨w.heap.size, 0, none⟩ = some (.slice a0 n0 c0) := X2.cell 0 (by simp)
                    have x21 : w2.cell? ⟨w.heap.size, 1, none⟩ = some (.slice a1 n1 c1) := X2.cell 1 (by simp)
                    have x22 : w2.cell? ⟨w.heap.size, 2, none⟩ = some (.slice a2 n2 c2) := X2.cell 2 (by simp)
                    have y20 : w2.cell? ⟨w.heap.size + 1, 0, none⟩ = some (.int .i64 f.depot) := Y2.cell 0 (by simp)
                    have y21 : w2.cell? ⟨w.heap.size + 1, 1, none⟩ = some (.int .i64 f.start) := Y2.cell 1 (by simp)
                    have y22 : w2.cell? ⟨w.heap.size + 1, 2, none⟩ = some (.int .i64 f.veh) := Y2.cell 2 (by simp)
                    have y23 : w2.cell? ⟨w.heap.size + 1, 3, none⟩ = some (.int .i64 f.room) := Y2.cell 3 (by simp)
                    have y24 : w2.cell? ⟨w.heap.size + 1, 4, none⟩ = some (.slice a nt c) := Y2.cell 4 (by simp)
                    have xl2 := X2.lt
                    have yl2 := Y2.lt
                    clear x10 x11 x12 y10 y11 y12 y13 y14 xl1 yl1 X1 Y1 X0 Y0
                    clear e2 e3 e4 e5 e6 e7 e8 u2 u3
                    go_wp2
                    go_loopw [5, 6] (fun i _ wr => ∃ k : Nat, k ≤ nt ∧ i = .int .i64 k ∧ (∀ j (h : j < f.tasks.length), j < k → taskB n0 f.tasks[j] = true) ∧ Bel w2 wr) (fun i _ _ => nt - (intOf i).toNat)
                    case atStart => exact ⟨0, Nat.zero_le _, rfl, fun j _ hj => absurd hj (Nat.not_lt_zero _), Bel.refl _⟩
                    case round =>
                      obtain ⟨k, hk, rfl, hall, hbel⟩ := hrel
                      have H : Hid (∀ j (h : j < f.tasks.length), j < k → taskB n0 f.tasks[j] = true) := hall
                      clear hall x20 x21 x22 y20 y21 y22 y23 y24 xl2 yl2
                      have Xr := X2.bel hbel
                      have Yr := Y2.bel hbel
                      have x0 : wr.cell? ⟨w.heap.size, 0, none⟩ = some (.slice a0 n0 c0) := Xr.cell 0 (by simp)
                      have x1 : wr.cell? ⟨w.heap.size, 1, none⟩ = some (.slice a1 n1 c1) := Xr.cell 1 (by simp)
                      have x2 : wr.cell? ⟨w.heap.size, 2, none⟩ = some (.slice a2 n2 c2) := Xr.cell 2 (by simp)
                      have y4 : wr.cell? ⟨w.heap.size + 1, 4, none⟩ = some (.slice a nt c) := Yr.cell 4 (by simp)
                      have xl := Xr.lt
                      have yl := Yr.lt
                      by_cases hlt : k < nt
                      rotate_left
                      · have HT : Hid (true = R) := (by rw [← HRR.out]; exact (allB_yes fun i h => H.out i h (by rw [Hn.out] at h; omega)).symm : true = R)
                        go_wp2
                        go_ret
                        exact ⟨ret_bl HT.out, bel_step hB2 hbel⟩
                      have hkl : k < f.tasks.length := by rw [Hn.out]; exact hlt
                      obtain ⟨b, off, fb, rfl, hb, hx⟩ := (hT.bel taskE (bel_step hB2 hbel)).out hkl
                      obtain ⟨_, i0, i1, i2, i3, i4, z0, z1, z2, z3, z4⟩ := hx k hkl
                      obtain ⟨d, Hd⟩ : ∃ d, Hid (d = f.tasks[k]) := ⟨_, (rfl : f.tasks[k] = _)⟩
                      rw [← Hd.out] at z0 z1 z2 z3 z4
                      clear hx hT i0 i1 i2 i3 i4 X2 Y2
                      have hlt' : (k : Int) < (nt : Int) := by omega
                      obtain ⟨V, HV⟩ : ∃ V, Hid (V = wr.alloc (.cells #[.int .i64 d.sp, .int .i64 d.ld, .int .i64 d.op, .int .i64 d.cl, .int .i64 d.st] 53)) := ⟨_, (rfl : wr.alloc (.cells #[.int .i64 d.sp, .int .i64 d.ld, .int .i64 d.op, .int .i64 d.cl, .int .i64 d.st] 53) = _)⟩
                      have hbV : Bel wr V := by rw [HV.out]; exact bel_alloc (Bel.refl _) _
                      have XV : Blk V wr.heap.size [.int .i64 d.sp, .int .i64 d.ld, .int .i64 d.op, .int .i64 d.cl, .int .i64 d.st] := by rw [HV.out]; exact Blk.new wr [.int .i64 d.sp, .int .i64 d.ld, .int .i64 d.op, .int .i64 d.cl, .int .i64 d.st] _
                      rcases Bool.eq_false_or_eq_true (inN n0 d.sp) with t0 | t0
                      · skip
                        by_cases t1 : 0 ≤ d.ld
                        · skip
                          by_cases t2 : d.ld ≤ 1000
                          · skip
                            by_cases t3 : 0 ≤ d.op
                            · skip
                              by_cases t4 : d.op ≤ d.cl
                              · skip
                                by_cases t5 : d.cl ≤ 1000000
                                · skip
                                  by_cases t6 : 0 ≤ d.st
                                  · skip
                                    by_cases t7 : d.st ≤ 100000
                                    · skip
                                      have HA : Hid (taskB n0 f.tasks[k] = true) := (by rw [← Hd.out]; simp [taskB, upB, t0, t1, t2, t3, t4, t5, t6, t7] : taskB n0 f.tasks[k] = true)
                                      go_upto_region 7 with fail
                                      rw [← HV.out]
                                      have xv0 : V.cell? ⟨w.heap.size, 0, none⟩ = some (.slice a0 n0 c0) := (Xr.bel hbV).cell 0 (by simp)
                                      have xv1 : V.cell? ⟨w.heap.size, 1, none⟩ = some (.slice a1 n1 c1) := (Xr.bel hbV).cell 1 (by simp)
                                      have xv2 : V.cell? ⟨w.heap.size, 2, none⟩ = some (.slice a2 n2 c2) := (Xr.bel hbV).cell 2 (by simp)
                                      have tv0 : V.cell? ⟨wr.heap.size, 0, none⟩ = some (.int .i64 d.sp) := XV.cell 0 (by simp)
                                      have tv1 : V.cell? ⟨wr.heap.size, 1, none⟩ = some (.int .i64 d.ld) := XV.cell 1 (by simp)
                                      have tv2 : V.cell? ⟨wr.heap.size, 2, none⟩ = some (.int .i64 d.op) := XV.cell 2 (by simp)
                                      have tv3 : V.cell? ⟨wr.heap.size, 3, none⟩ = some (.int .i64 d.cl) := XV.cell 3 (by simp)
                                      have tv4 : V.cell? ⟨wr.heap.size, 4, none⟩ = some (.int .i64 d.st) := XV.cell 4 (by simp)
                                      have tl := XV.lt
                                      have xvl := (Xr.bel hbV).lt
                                      clear x0 x1 x2 y4 z0 z1 z2 z3 z4
                                      go_wp2_with fail
                                      refine (spotIs_r _ _ _ _ _ _ _ _ _ _ _ _ t0).mono ?_
                                      rintro e w3 ⟨rfl, hb3⟩
                                      have hB3 := bel_step hbV hb3
                                      have X3 := XV.bel hb3
                                      have tw0 : w3.cell? ⟨wr.heap.size, 0, none⟩ = some (.int .i64 d.sp) := X3.cell 0 (by simp)
                                      have tw1 : w3.cell? ⟨wr.heap.size, 1, none⟩ = some (.int .i64 d.ld) := X3.cell 1 (by simp)
                                      have tw2 : w3.cell? ⟨wr.heap.size, 2, none⟩ = some (.int .i64 d.op) := X3.cell 2 (by simp)
                                      have tw3 : w3.cell? ⟨wr.heap.size, 3, none⟩ = some (.int .i64 d.cl) := X3.cell 3 (by simp)
                                      have tw4 : w3.cell? ⟨wr.heap.size, 4, none⟩ = some (.int .i64 d.st) := X3.cell 4 (by simp)
                                      have tl3 := X3.lt
                                      clear tv0 tv1 tv2 tv3 tv4 xv0 xv1 xv2
                                      go_wp2
                                      go_roundw
                                      case rel => exact ⟨k + 1, by omega, by go_num, fun j h hj => by
                                                      (by_cases e : j = k)
                                                      · subst e; exact HA.out
                                                      · exact H.out j h (by omega), bel_step hbel hB3⟩
                                      case measure => simp [intOf]; omega
                                    · skip
                                      have HF : Hid (false = R) := (by rw [← HRR.out]; exact (allB_no hkl (by rw [← Hd.out]; simp [taskB, upB, t7])).symm : false = R)
                                      go_upto_region 7 with fail
                                      rw [← HV.out]
                                      have xv0 : V.cell? ⟨w.heap.size, 0, none⟩ = some (.slice a0 n0 c0) := (Xr.bel hbV).cell 0 (by simp)
                                      have xv1 : V.cell? ⟨w.heap.size, 1, none⟩ = some (.slice a1 n1 c1) := (Xr.bel hbV).cell 1 (by simp)
                                      have xv2 : V.cell? ⟨w.heap.size, 2, none⟩ = some (.slice a2 n2 c2) := (Xr.bel hbV).cell 2 (by simp)
                                      have tv0 : V.cell? ⟨wr.heap.size, 0, none⟩ = some (.int .i64 d.sp) := XV.cell 0 (by simp)
                                      have tv1 : V.cell? ⟨wr.heap.size, 1, none⟩ = some (.int .i64 d.ld) := XV.cell 1 (by simp)
                                      have tv2 : V.cell? ⟨wr.heap.size, 2, none⟩ = some (.int .i64 d.op) := XV.cell 2 (by simp)
                                      have tv3 : V.cell? ⟨wr.heap.size, 3, none⟩ = some (.int .i64 d.cl) := XV.cell 3 (by simp)
                                      have tv4 : V.cell? ⟨wr.heap.size, 4, none⟩ = some (.int .i64 d.st) := XV.cell 4 (by simp)
                                      have tl := XV.lt
                                      have xvl := (Xr.bel hbV).lt
                                      clear x0 x1 x2 y4 z0 z1 z2 z3 z4
                                      go_wp2_with fail
                                      refine (spotIs_r _ _ _ _ _ _ _ _ _ _ _ _ t0).mono ?_
                                      rintro e w3 ⟨rfl, hb3⟩
                                      have hB3 := bel_step hbV hb3
                                      have X3 := XV.bel hb3
                                      have tw0 : w3.cell? ⟨wr.heap.size, 0, none⟩ = some (.int .i64 d.sp) := X3.cell 0 (by simp)
                                      have tw1 : w3.cell? ⟨wr.heap.size, 1, none⟩ = some (.int .i64 d.ld) := X3.cell 1 (by simp)
                                      have tw2 : w3.cell? ⟨wr.heap.size, 2, none⟩ = some (.int .i64 d.op) := X3.cell 2 (by simp)
                                      have tw3 : w3.cell? ⟨wr.heap.size, 3, none⟩ = some (.int .i64 d.cl) := X3.cell 3 (by simp)
                                      have tw4 : w3.cell? ⟨wr.heap.size, 4, none⟩ = some (.int .i64 d.st) := X3.cell 4 (by simp)
                                      have tl3 := X3.lt
                                      clear tv0 tv1 tv2 tv3 tv4 xv0 xv1 xv2
                                      go_wp2
                                      go_ret
                                      exact ⟨ret_bl HF.out, bel_step hB2 (bel_step hbel hB3)⟩
                                  · skip
                                    have HF : Hid (false = R) := (by rw [← HRR.out]; exact (allB_no hkl (by rw [← Hd.out]; simp [taskB, upB, t6])).symm : false = R)
                                    go_upto_region 7 with fail
                                    rw [← HV.out]
                                    have xv0 : V.cell? ⟨w.heap.size, 0, none⟩ = some (.slice a0 n0 c0) := (Xr.bel hbV).cell 0 (by simp)
                                    have xv1 : V.cell? ⟨w.heap.size, 1, none⟩ = some (.slice a1 n1 c1) := (Xr.bel hbV).cell 1 (by simp)
                                    have xv2 : V.cell? ⟨w.heap.size, 2, none⟩ = some (.slice a2 n2 c2) := (Xr.bel hbV).cell 2 (by simp)
                                    have tv0 : V.cell? ⟨wr.heap.size, 0, none⟩ = some (.int .i64 d.sp) := XV.cell 0 (by simp)
                                    have tv1 : V.cell? ⟨wr.heap.size, 1, none⟩ = some (.int .i64 d.ld) := XV.cell 1 (by simp)
                                    have tv2 : V.cell? ⟨wr.heap.size, 2, none⟩ = some (.int .i64 d.op) := XV.cell 2 (by simp)
                                    have tv3 : V.cell? ⟨wr.heap.size, 3, none⟩ = some (.int .i64 d.cl) := XV.cell 3 (by simp)
                                    have tv4 : V.cell? ⟨wr.heap.size, 4, none⟩ = some (.int .i64 d.st) := XV.cell 4 (by simp)
                                    have tl := XV.lt
                                    have xvl := (Xr.bel hbV).lt
                                    clear x0 x1 x2 y4 z0 z1 z2 z3 z4
                                    go_wp2_with fail
                                    refine (spotIs_r _ _ _ _ _ _ _ _ _ _ _ _ t0).mono ?_
                                    rintro e w3 ⟨rfl, hb3⟩
                                    have hB3 := bel_step hbV hb3
                                    have X3 := XV.bel hb3
                                    have tw0 : w3.cell? ⟨wr.heap.size, 0, none⟩ = some (.int .i64 d.sp) := X3.cell 0 (by simp)
                                    have tw1 : w3.cell? ⟨wr.heap.size, 1, none⟩ = some (.int .i64 d.ld) := X3.cell 1 (by simp)
                                    have tw2 : w3.cell? ⟨wr.heap.size, 2, none⟩ = some (.int .i64 d.op) := X3.cell 2 (by simp)
                                    have tw3 : w3.cell? ⟨wr.heap.size, 3, none⟩ = some (.int .i64 d.cl) := X3.cell 3 (by simp)
                                    have tw4 : w3.cell? ⟨wr.heap.size, 4, none⟩ = some (.int .i64 d.st) := X3.cell 4 (by simp)
                                    have tl3 := X3.lt
                                    clear tv0 tv1 tv2 tv3 tv4 xv0 xv1 xv2
                                    go_wp2
                                    go_ret
                                    exact ⟨ret_bl HF.out, bel_step hB2 (bel_step hbel hB3)⟩
                                · skip
                                  have HF : Hid (false = R) := (by rw [← HRR.out]; exact (allB_no hkl (by rw [← Hd.out]; simp [taskB, upB, t5])).symm : false = R)
                                  go_upto_region 7 with fail
                                  rw [← HV.out]
                                  have xv0 : V.cell? ⟨w.heap.size, 0, none⟩ = some (.slice a0 n0 c0) := (Xr.bel hbV).cell 0 (by simp)
                                  have xv1 : V.cell? ⟨w.heap.size, 1, none⟩ = some (.slice a1 n1 c1) := (Xr.bel hbV).cell 1 (by simp)
                                  have xv2 : V.cell? ⟨w.heap.size, 2, none⟩ = some (.slice a2 n2 c2) := (Xr.bel hbV).cell 2 (by simp)
                                  have tv0 : V.cell? ⟨wr.heap.size, 0, none⟩ = some (.int .i64 d.sp) := XV.cell 0 (by simp)
                                  have tv1 : V.cell? ⟨wr.heap.size, 1, none⟩ = some (.int .i64 d.ld) := XV.cell 1 (by simp)
                                  have tv2 : V.cell? ⟨wr.heap.size, 2, none⟩ = some (.int .i64 d.op) := XV.cell 2 (by simp)
                                  have tv3 : V.cell? ⟨wr.heap.size, 3, none⟩ = some (.int .i64 d.cl) := XV.cell 3 (by simp)
                                  have tv4 : V.cell? ⟨wr.heap.size, 4, none⟩ = some (.int .i64 d.st) := XV.cell 4 (by simp)
                                  have tl := XV.lt
                                  have xvl := (Xr.bel hbV).lt
                                  clear x0 x1 x2 y4 z0 z1 z2 z3 z4
                                  go_wp2_with fail
                                  refine (spotIs_r _ _ _ _ _ _ _ _ _ _ _ _ t0).mono ?_
                                  rintro e w3 ⟨rfl, hb3⟩
                                  have hB3 := bel_step hbV hb3
                                  have X3 := XV.bel hb3
                                  have tw0 : w3.cell? ⟨wr.heap.size, 0, none⟩ = some (.int .i64 d.sp) := X3.cell 0 (by simp)
                                  have tw1 : w3.cell? ⟨wr.heap.size, 1, none⟩ = some (.int .i64 d.ld) := X3.cell 1 (by simp)
                                  have tw2 : w3.cell? ⟨wr.heap.size, 2, none⟩ = some (.int .i64 d.op) := X3.cell 2 (by simp)
                                  have tw3 : w3.cell? ⟨wr.heap.size, 3, none⟩ = some (.int .i64 d.cl) := X3.cell 3 (by simp)
                                  have tw4 : w3.cell? ⟨wr.heap.size, 4, none⟩ = some (.int .i64 d.st) := X3.cell 4 (by simp)
                                  have tl3 := X3.lt
                                  clear tv0 tv1 tv2 tv3 tv4 xv0 xv1 xv2
                                  go_wp2
                                  go_ret
                                  exact ⟨ret_bl HF.out, bel_step hB2 (bel_step hbel hB3)⟩
                              · skip
                                have HF : Hid (false = R) := (by rw [← HRR.out]; exact (allB_no hkl (by rw [← Hd.out]; simp [taskB, upB, t4])).symm : false = R)
                                go_upto_region 7 with fail
                                rw [← HV.out]
                                have xv0 : V.cell? ⟨w.heap.size, 0, none⟩ = some (.slice a0 n0 c0) := (Xr.bel hbV).cell 0 (by simp)
                                have xv1 : V.cell? ⟨w.heap.size, 1, none⟩ = some (.slice a1 n1 c1) := (Xr.bel hbV).cell 1 (by simp)
                                have xv2 : V.cell? ⟨w.heap.size, 2, none⟩ = some (.slice a2 n2 c2) := (Xr.bel hbV).cell 2 (by simp)
                                have tv0 : V.cell? ⟨wr.heap.size, 0, none⟩ = some (.int .i64 d.sp) := XV.cell 0 (by simp)
                                have tv1 : V.cell? ⟨wr.heap.size, 1, none⟩ = some (.int .i64 d.ld) := XV.cell 1 (by simp)
                                have tv2 : V.cell? ⟨wr.heap.size, 2, none⟩ = some (.int .i64 d.op) := XV.cell 2 (by simp)
                                have tv3 : V.cell? ⟨wr.heap.size, 3, none⟩ = some (.int .i64 d.cl) := XV.cell 3 (by simp)
                                have tv4 : V.cell? ⟨wr.heap.size, 4, none⟩ = some (.int .i64 d.st) := XV.cell 4 (by simp)
                                have tl := XV.lt
                                have xvl := (Xr.bel hbV).lt
                                clear x0 x1 x2 y4 z0 z1 z2 z3 z4
                                go_wp2_with fail
                                refine (spotIs_r _ _ _ _ _ _ _ _ _ _ _ _ t0).mono ?_
                                rintro e w3 ⟨rfl, hb3⟩
                                have hB3 := bel_step hbV hb3
                                have X3 := XV.bel hb3
                                have tw0 : w3.cell? ⟨wr.heap.size, 0, none⟩ = some (.int .i64 d.sp) := X3.cell 0 (by simp)
                                have tw1 : w3.cell? ⟨wr.heap.size, 1, none⟩ = some (.int .i64 d.ld) := X3.cell 1 (by simp)
                                have tw2 : w3.cell? ⟨wr.heap.size, 2, none⟩ = some (.int .i64 d.op) := X3.cell 2 (by simp)
                                have tw3 : w3.cell? ⟨wr.heap.size, 3, none⟩ = some (.int .i64 d.cl) := X3.cell 3 (by simp)
                                have tw4 : w3.cell? ⟨wr.heap.size, 4, none⟩ = some (.int .i64 d.st) := X3.cell 4 (by simp)
                                have tl3 := X3.lt
                                clear tv0 tv1 tv2 tv3 tv4 xv0 xv1 xv2
                                go_wp2
                                go_ret
                                exact ⟨ret_bl HF.out, bel_step hB2 (bel_step hbel hB3)⟩
                            · skip
                              have HF : Hid (false = R) := (by rw [← HRR.out]; exact (allB_no hkl (by rw [← Hd.out]; simp [taskB, upB, t3])).symm : false = R)
                              go_upto_region 7 with fail
                              rw [← HV.out]
                              have xv0 : V.cell? ⟨w.heap.size, 0, none⟩ = some (.slice a0 n0 c0) := (Xr.bel hbV).cell 0 (by simp)
                              have xv1 : V.cell? ⟨w.heap.size, 1, none⟩ = some (.slice a1 n1 c1) := (Xr.bel hbV).cell 1 (by simp)
                              have xv2 : V.cell? ⟨w.heap.size, 2, none⟩ = some (.slice a2 n2 c2) := (Xr.bel hbV).cell 2 (by simp)
                              have tv0 : V.cell? ⟨wr.heap.size, 0, none⟩ = some (.int .i64 d.sp) := XV.cell 0 (by simp)
                              have tv1 : V.cell? ⟨wr.heap.size, 1, none⟩ = some (.int .i64 d.ld) := XV.cell 1 (by simp)
                              have tv2 : V.cell? ⟨wr.heap.size, 2, none⟩ = some (.int .i64 d.op) := XV.cell 2 (by simp)
                              have tv3 : V.cell? ⟨wr.heap.size, 3, none⟩ = some (.int .i64 d.cl) := XV.cell 3 (by simp)
                              have tv4 : V.cell? ⟨wr.heap.size, 4, none⟩ = some (.int .i64 d.st) := XV.cell 4 (by simp)
                              have tl := XV.lt
                              have xvl := (Xr.bel hbV).lt
                              clear x0 x1 x2 y4 z0 z1 z2 z3 z4
                              go_wp2_with fail
                              refine (spotIs_r _ _ _ _ _ _ _ _ _ _ _ _ t0).mono ?_
                              rintro e w3 ⟨rfl, hb3⟩
                              have hB3 := bel_step hbV hb3
                              have X3 := XV.bel hb3
                              have tw0 : w3.cell? ⟨wr.heap.size, 0, none⟩ = some (.int .i64 d.sp) := X3.cell 0 (by simp)
                              have tw1 : w3.cell? ⟨wr.heap.size, 1, none⟩ = some (.int .i64 d.ld) := X3.cell 1 (by simp)
                              have tw2 : w3.cell? ⟨wr.heap.size, 2, none⟩ = some (.int .i64 d.op) := X3.cell 2 (by simp)
                              have tw3 : w3.cell? ⟨wr.heap.size, 3, none⟩ = some (.int .i64 d.cl) := X3.cell 3 (by simp)
                              have tw4 : w3.cell? ⟨wr.heap.size, 4, none⟩ = some (.int .i64 d.st) := X3.cell 4 (by simp)
                              have tl3 := X3.lt
                              clear tv0 tv1 tv2 tv3 tv4 xv0 xv1 xv2
                              go_wp2
                              go_ret
                              exact ⟨ret_bl HF.out, bel_step hB2 (bel_step hbel hB3)⟩
                          · skip
                            have HF : Hid (false = R) := (by rw [← HRR.out]; exact (allB_no hkl (by rw [← Hd.out]; simp [taskB, upB, t2])).symm : false = R)
                            go_upto_region 7 with fail
                            rw [← HV.out]
                            have xv0 : V.cell? ⟨w.heap.size, 0, none⟩ = some (.slice a0 n0 c0) := (Xr.bel hbV).cell 0 (by simp)
                            have xv1 : V.cell? ⟨w.heap.size, 1, none⟩ = some (.slice a1 n1 c1) := (Xr.bel hbV).cell 1 (by simp)
                            have xv2 : V.cell? ⟨w.heap.size, 2, none⟩ = some (.slice a2 n2 c2) := (Xr.bel hbV).cell 2 (by simp)
                            have tv0 : V.cell? ⟨wr.heap.size, 0, none⟩ = some (.int .i64 d.sp) := XV.cell 0 (by simp)
                            have tv1 : V.cell? ⟨wr.heap.size, 1, none⟩ = some (.int .i64 d.ld) := XV.cell 1 (by simp)
                            have tv2 : V.cell? ⟨wr.heap.size, 2, none⟩ = some (.int .i64 d.op) := XV.cell 2 (by simp)
                            have tv3 : V.cell? ⟨wr.heap.size, 3, none⟩ = some (.int .i64 d.cl) := XV.cell 3 (by simp)
                            have tv4 : V.cell? ⟨wr.heap.size, 4, none⟩ = some (.int .i64 d.st) := XV.cell 4 (by simp)
                            have tl := XV.lt
                            have xvl := (Xr.bel hbV).lt
                            clear x0 x1 x2 y4 z0 z1 z2 z3 z4
                            go_wp2_with fail
                            refine (spotIs_r _ _ _ _ _ _ _ _ _ _ _ _ t0).mono ?_
                            rintro e w3 ⟨rfl, hb3⟩
                            have hB3 := bel_step hbV hb3
                            have X3 := XV.bel hb3
                            have tw0 : w3.cell? ⟨wr.heap.size, 0, none⟩ = some (.int .i64 d.sp) := X3.cell 0 (by simp)
                            have tw1 : w3.cell? ⟨wr.heap.size, 1, none⟩ = some (.int .i64 d.ld) := X3.cell 1 (by simp)
                            have tw2 : w3.cell? ⟨wr.heap.size, 2, none⟩ = some (.int .i64 d.op) := X3.cell 2 (by simp)
                            have tw3 : w3.cell? ⟨wr.heap.size, 3, none⟩ = some (.int .i64 d.cl) := X3.cell 3 (by simp)
                            have tw4 : w3.cell? ⟨wr.heap.size, 4, none⟩ = some (.int .i64 d.st) := X3.cell 4 (by simp)
                            have tl3 := X3.lt
                            clear tv0 tv1 tv2 tv3 tv4 xv0 xv1 xv2
                            go_wp2
                            go_ret
                            exact ⟨ret_bl HF.out, bel_step hB2 (bel_step hbel hB3)⟩
                        · skip
                          have HF : Hid (false = R) := (by rw [← HRR.out]; exact (allB_no hkl (by rw [← Hd.out]; simp [taskB, upB, t1])).symm : false = R)
                          go_upto_region 7 with fail
                          rw [← HV.out]
                          have xv0 : V.cell? ⟨w.heap.size, 0, none⟩ = some (.slice a0 n0 c0) := (Xr.bel hbV).cell 0 (by simp)
                          have xv1 : V.cell? ⟨w.heap.size, 1, none⟩ = some (.slice a1 n1 c1) := (Xr.bel hbV).cell 1 (by simp)
                          have xv2 : V.cell? ⟨w.heap.size, 2, none⟩ = some (.slice a2 n2 c2) := (Xr.bel hbV).cell 2 (by simp)
                          have tv0 : V.cell? ⟨wr.heap.size, 0, none⟩ = some (.int .i64 d.sp) := XV.cell 0 (by simp)
                          have tv1 : V.cell? ⟨wr.heap.size, 1, none⟩ = some (.int .i64 d.ld) := XV.cell 1 (by simp)
                          have tv2 : V.cell? ⟨wr.heap.size, 2, none⟩ = some (.int .i64 d.op) := XV.cell 2 (by simp)
                          have tv3 : V.cell? ⟨wr.heap.size, 3, none⟩ = some (.int .i64 d.cl) := XV.cell 3 (by simp)
                          have tv4 : V.cell? ⟨wr.heap.size, 4, none⟩ = some (.int .i64 d.st) := XV.cell 4 (by simp)
                          have tl := XV.lt
                          have xvl := (Xr.bel hbV).lt
                          clear x0 x1 x2 y4 z0 z1 z2 z3 z4
                          go_wp2_with fail
                          refine (spotIs_r _ _ _ _ _ _ _ _ _ _ _ _ t0).mono ?_
                          rintro e w3 ⟨rfl, hb3⟩
                          have hB3 := bel_step hbV hb3
                          have X3 := XV.bel hb3
                          have tw0 : w3.cell? ⟨wr.heap.size, 0, none⟩ = some (.int .i64 d.sp) := X3.cell 0 (by simp)
                          have tw1 : w3.cell? ⟨wr.heap.size, 1, none⟩ = some (.int .i64 d.ld) := X3.cell 1 (by simp)
                          have tw2 : w3.cell? ⟨wr.heap.size, 2, none⟩ = some (.int .i64 d.op) := X3.cell 2 (by simp)
                          have tw3 : w3.cell? ⟨wr.heap.size, 3, none⟩ = some (.int .i64 d.cl) := X3.cell 3 (by simp)
                          have tw4 : w3.cell? ⟨wr.heap.size, 4, none⟩ = some (.int .i64 d.st) := X3.cell 4 (by simp)
                          have tl3 := X3.lt
                          clear tv0 tv1 tv2 tv3 tv4 xv0 xv1 xv2
                          go_wp2
                          go_ret
                          exact ⟨ret_bl HF.out, bel_step hB2 (bel_step hbel hB3)⟩
                      · skip
                        have HF : Hid (false = R) := (by rw [← HRR.out]; exact (allB_no hkl (by rw [← Hd.out]; simp [taskB, upB, t0])).symm : false = R)
                        go_upto_region 7 with fail
                        rw [← HV.out]
                        have xv0 : V.cell? ⟨w.heap.size, 0, none⟩ = some (.slice a0 n0 c0) := (Xr.bel hbV).cell 0 (by simp)
                        have xv1 : V.cell? ⟨w.heap.size, 1, none⟩ = some (.slice a1 n1 c1) := (Xr.bel hbV).cell 1 (by simp)
                        have xv2 : V.cell? ⟨w.heap.size, 2, none⟩ = some (.slice a2 n2 c2) := (Xr.bel hbV).cell 2 (by simp)
                        have tv0 : V.cell? ⟨wr.heap.size, 0, none⟩ = some (.int .i64 d.sp) := XV.cell 0 (by simp)
                        have tv1 : V.cell? ⟨wr.heap.size, 1, none⟩ = some (.int .i64 d.ld) := XV.cell 1 (by simp)
                        have tv2 : V.cell? ⟨wr.heap.size, 2, none⟩ = some (.int .i64 d.op) := XV.cell 2 (by simp)
                        have tv3 : V.cell? ⟨wr.heap.size, 3, none⟩ = some (.int .i64 d.cl) := XV.cell 3 (by simp)
                        have tv4 : V.cell? ⟨wr.heap.size, 4, none⟩ = some (.int .i64 d.st) := XV.cell 4 (by simp)
                        have tl := XV.lt
                        have xvl := (Xr.bel hbV).lt
                        clear x0 x1 x2 y4 z0 z1 z2 z3 z4
                        go_wp2_with fail
                        refine (spotIs_r _ _ _ _ _ _ _ _ _ _ _ _ t0).mono ?_
                        rintro e w3 ⟨rfl, hb3⟩
                        have hB3 := bel_step hbV hb3
                        have X3 := XV.bel hb3
                        have tw0 : w3.cell? ⟨wr.heap.size, 0, none⟩ = some (.int .i64 d.sp) := X3.cell 0 (by simp)
                        have tw1 : w3.cell? ⟨wr.heap.size, 1, none⟩ = some (.int .i64 d.ld) := X3.cell 1 (by simp)
                        have tw2 : w3.cell? ⟨wr.heap.size, 2, none⟩ = some (.int .i64 d.op) := X3.cell 2 (by simp)
                        have tw3 : w3.cell? ⟨wr.heap.size, 3, none⟩ = some (.int .i64 d.cl) := X3.cell 3 (by simp)
                        have tw4 : w3.cell? ⟨wr.heap.size, 4, none⟩ = some (.int .i64 d.st) := X3.cell 4 (by simp)
                        have tl3 := X3.lt
                        clear tv0 tv1 tv2 tv3 tv4 xv0 xv1 xv2
                        go_wp2
                        go_ret
                        exact ⟨ret_bl HF.out, bel_step hB2 (bel_step hbel hB3)⟩
                  · have e8 := decide_eq_false k8
                    have u2 : upB f.start 1000000 = true := by simp [upB, k2, k3]
                    have u3 : upB f.room 10000 = true := by simp [upB, k6, k7]
                    have HR : Hid (false = fleetB g f) := (by unfold fleetB; rw [k0, H0.out, k1, u2, e4, e5, u3, Hn.out, e8] <;> simp : false = fleetB g f)
                    have k8i : ¬ (nt : Int) ≤ 6 := by omega
                    go_enter Try.func6, Try.ntmps6
                    go_wp2_with fail
                    refine (specGraphOkT_r _ g bg _ _ (hV'.bel hB0) hQ k0).mono ?_
                    rintro e w1 ⟨rfl, hb1⟩
                    have hB1 := bel_step hB0 hb1
                    have X1 := X0.bel hb1
                    have Y1 := Y0.bel hb1
                    have x10 : w1.cell? ⟨w.heap.size, 0, none⟩ = some (.slice a0 n0 c0) := X1.cell 0 (by simp)
                    have x11 : w1.cell? ⟨w.heap.size, 1, none⟩ = some (.slice a1 n1 c1) := X1.cell 1 (by simp)
                    have x12 : w1.cell? ⟨w.heap.size, 2, none⟩ = some (.slice a2 n2 c2) := X1.cell 2 (by simp)
                    have y10 : w1.cell? ⟨w.heap.size + 1, 0, none⟩ = some (.int .i64 f.depot) := Y1.cell 0 (by simp)
                    have y11 : w1.cell? ⟨w.heap.size + 1, 1, none⟩ = some (.int .i64 f.start) := Y1.cell 1 (by simp)
                    have y12 : w1.cell? ⟨w.heap.size + 1, 2, none⟩ = some (.int .i64 f.veh) := Y1.cell 2 (by simp)
                    have y13 : w1.cell? ⟨w.heap.size + 1, 3, none⟩ = some (.int .i64 f.room) := Y1.cell 3 (by simp)
                    have y14 : w1.cell? ⟨w.heap.size + 1, 4, none⟩ = some (.slice a nt c) := Y1.cell 4 (by simp)
                    have xl1 := X1.lt
                    have yl1 := Y1.lt
                    go_wp2_with fail
                    refine (spotIs_r _ _ _ _ _ _ _ _ _ _ _ _ k1).mono ?_
                    rintro e w2 ⟨rfl, hb2⟩
                    have hB2 := bel_step hB1 hb2
                    have X2 := X1.bel hb2
                    have Y2 := Y1.bel hb2
                    have x20 : w2.cell? ⟨w.heap.size, 0, none⟩ = some (.slice a0 n0 c0) := X2.cell 0 (by simp)
                    have x21 : w2.cell? ⟨w.heap.size, 1, none⟩ = some (.slice a1 n1 c1) := X2.cell 1 (by simp)
                    have x22 : w2.cell? ⟨w.heap.size, 2, none⟩ = some (.slice a2 n2 c2) := X2.cell 2 (by simp)
                    have y20 : w2.cell? ⟨w.heap.size + 1, 0, none⟩ = some (.int .i64 f.depot) := Y2.cell 0 (by simp)
                    have y21 : w2.cell? ⟨w.heap.size + 1, 1, none⟩ = some (.int .i64 f.start) := Y2.cell 1 (by simp)
                    have y22 : w2.cell? ⟨w.heap.size + 1, 2, none⟩ = some (.int .i64 f.veh) := Y2.cell 2 (by simp)
                    have y23 : w2.cell? ⟨w.heap.size + 1, 3, none⟩ = some (.int .i64 f.room) := Y2.cell 3 (by simp)
                    have y24 : w2.cell? ⟨w.heap.size + 1, 4, none⟩ = some (.slice a nt c) := Y2.cell 4 (by simp)
                    have xl2 := X2.lt
                    have yl2 := Y2.lt
                    clear x10 x11 x12 y10 y11 y12 y13 y14 xl1 yl1 X1 Y1 X0 Y0
                    go_wp2
                    go_ret
                    exact ⟨ret_bl HR.out, hB2⟩
                · have e7 := decide_eq_false k7
                  have u2 : upB f.start 1000000 = true := by simp [upB, k2, k3]
                  have u : upB f.room 10000 = false := by simp [upB, k7]
                  have HR : Hid (false = fleetB g f) := (by unfold fleetB; rw [k0, H0.out, k1, u2, e4, e5, u] <;> simp : false = fleetB g f)
                  go_enter Try.func6, Try.ntmps6
                  go_wp2_with fail
                  refine (specGraphOkT_r _ g bg _ _ (hV'.bel hB0) hQ k0).mono ?_
                  rintro e w1 ⟨rfl, hb1⟩
                  have hB1 := bel_step hB0 hb1
                  have X1 := X0.bel hb1
                  have Y1 := Y0.bel hb1
                  have x10 : w1.cell? ⟨w.heap.size, 0, none⟩ = some (.slice a0 n0 c0) := X1.cell 0 (by simp)
                  have x11 : w1.cell? ⟨w.heap.size, 1, none⟩ = some (.slice a1 n1 c1) := X1.cell 1 (by simp)
                  have x12 : w1.cell? ⟨w.heap.size, 2, none⟩ = some (.slice a2 n2 c2) := X1.cell 2 (by simp)
                  have y10 : w1.cell? ⟨w.heap.size + 1, 0, none⟩ = some (.int .i64 f.depot) := Y1.cell 0 (by simp)
                  have y11 : w1.cell? ⟨w.heap.size + 1, 1, none⟩ = some (.int .i64 f.start) := Y1.cell 1 (by simp)
                  have y12 : w1.cell? ⟨w.heap.size + 1, 2, none⟩ = some (.int .i64 f.veh) := Y1.cell 2 (by simp)
                  have y13 : w1.cell? ⟨w.heap.size + 1, 3, none⟩ = some (.int .i64 f.room) := Y1.cell 3 (by simp)
                  have y14 : w1.cell? ⟨w.heap.size + 1, 4, none⟩ = some (.slice a nt c) := Y1.cell 4 (by simp)
                  have xl1 := X1.lt
                  have yl1 := Y1.lt
                  go_wp2_with fail
                  refine (spotIs_r _ _ _ _ _ _ _ _ _ _ _ _ k1).mono ?_
                  rintro e w2 ⟨rfl, hb2⟩
                  have hB2 := bel_step hB1 hb2
                  have X2 := X1.bel hb2
                  have Y2 := Y1.bel hb2
                  have x20 : w2.cell? ⟨w.heap.size, 0, none⟩ = some (.slice a0 n0 c0) := X2.cell 0 (by simp)
                  have x21 : w2.cell? ⟨w.heap.size, 1, none⟩ = some (.slice a1 n1 c1) := X2.cell 1 (by simp)
                  have x22 : w2.cell? ⟨w.heap.size, 2, none⟩ = some (.slice a2 n2 c2) := X2.cell 2 (by simp)
                  have y20 : w2.cell? ⟨w.heap.size + 1, 0, none⟩ = some (.int .i64 f.depot) := Y2.cell 0 (by simp)
                  have y21 : w2.cell? ⟨w.heap.size + 1, 1, none⟩ = some (.int .i64 f.start) := Y2.cell 1 (by simp)
                  have y22 : w2.cell? ⟨w.heap.size + 1, 2, none⟩ = some (.int .i64 f.veh) := Y2.cell 2 (by simp)
                  have y23 : w2.cell? ⟨w.heap.size + 1, 3, none⟩ = some (.int .i64 f.room) := Y2.cell 3 (by simp)
                  have y24 : w2.cell? ⟨w.heap.size + 1, 4, none⟩ = some (.slice a nt c) := Y2.cell 4 (by simp)
                  have xl2 := X2.lt
                  have yl2 := Y2.lt
                  clear x10 x11 x12 y10 y11 y12 y13 y14 xl1 yl1 X1 Y1 X0 Y0
                  go_wp2
                  go_ret
                  exact ⟨ret_bl HR.out, hB2⟩
              · have e6 := decide_eq_false k6
                have u2 : upB f.start 1000000 = true := by simp [upB, k2, k3]
                have u : upB f.room 10000 = false := by simp [upB, k6]
                have HR : Hid (false = fleetB g f) := (by unfold fleetB; rw [k0, H0.out, k1, u2, e4, e5, u] <;> simp : false = fleetB g f)
                go_enter Try.func6, Try.ntmps6
                go_wp2_with fail
                refine (specGraphOkT_r _ g bg _ _ (hV'.bel hB0) hQ k0).mono ?_
                rintro e w1 ⟨rfl, hb1⟩
                have hB1 := bel_step hB0 hb1
                have X1 := X0.bel hb1
                have Y1 := Y0.bel hb1
                have x10 : w1.cell? ⟨w.heap.size, 0, none⟩ = some (.slice a0 n0 c0) := X1.cell 0 (by simp)
                have x11 : w1.cell? ⟨w.heap.size, 1, none⟩ = some (.slice a1 n1 c1) := X1.cell 1 (by simp)
                have x12 : w1.cell? ⟨w.heap.size, 2, none⟩ = some (.slice a2 n2 c2) := X1.cell 2 (by simp)
                have y10 : w1.cell? ⟨w.heap.size + 1, 0, none⟩ = some (.int .i64 f.depot) := Y1.cell 0 (by simp)
                have y11 : w1.cell? ⟨w.heap.size + 1, 1, none⟩ = some (.int .i64 f.start) := Y1.cell 1 (by simp)
                have y12 : w1.cell? ⟨w.heap.size + 1, 2, none⟩ = some (.int .i64 f.veh) := Y1.cell 2 (by simp)
                have y13 : w1.cell? ⟨w.heap.size + 1, 3, none⟩ = some (.int .i64 f.room) := Y1.cell 3 (by simp)
                have y14 : w1.cell? ⟨w.heap.size + 1, 4, none⟩ = some (.slice a nt c) := Y1.cell 4 (by simp)
                have xl1 := X1.lt
                have yl1 := Y1.lt
                go_wp2_with fail
                refine (spotIs_r _ _ _ _ _ _ _ _ _ _ _ _ k1).mono ?_
                rintro e w2 ⟨rfl, hb2⟩
                have hB2 := bel_step hB1 hb2
                have X2 := X1.bel hb2
                have Y2 := Y1.bel hb2
                have x20 : w2.cell? ⟨w.heap.size, 0, none⟩ = some (.slice a0 n0 c0) := X2.cell 0 (by simp)
                have x21 : w2.cell? ⟨w.heap.size, 1, none⟩ = some (.slice a1 n1 c1) := X2.cell 1 (by simp)
                have x22 : w2.cell? ⟨w.heap.size, 2, none⟩ = some (.slice a2 n2 c2) := X2.cell 2 (by simp)
                have y20 : w2.cell? ⟨w.heap.size + 1, 0, none⟩ = some (.int .i64 f.depot) := Y2.cell 0 (by simp)
                have y21 : w2.cell? ⟨w.heap.size + 1, 1, none⟩ = some (.int .i64 f.start) := Y2.cell 1 (by simp)
                have y22 : w2.cell? ⟨w.heap.size + 1, 2, none⟩ = some (.int .i64 f.veh) := Y2.cell 2 (by simp)
                have y23 : w2.cell? ⟨w.heap.size + 1, 3, none⟩ = some (.int .i64 f.room) := Y2.cell 3 (by simp)
                have y24 : w2.cell? ⟨w.heap.size + 1, 4, none⟩ = some (.slice a nt c) := Y2.cell 4 (by simp)
                have xl2 := X2.lt
                have yl2 := Y2.lt
                clear x10 x11 x12 y10 y11 y12 y13 y14 xl1 yl1 X1 Y1 X0 Y0
                go_wp2
                go_ret
                exact ⟨ret_bl HR.out, hB2⟩
            · have e5 := decide_eq_false k5
              have u2 : upB f.start 1000000 = true := by simp [upB, k2, k3]
              have HR : Hid (false = fleetB g f) := (by unfold fleetB; rw [k0, H0.out, k1, u2, e4, e5] <;> simp : false = fleetB g f)
              go_enter Try.func6, Try.ntmps6
              go_wp2_with fail
              refine (specGraphOkT_r _ g bg _ _ (hV'.bel hB0) hQ k0).mono ?_
              rintro e w1 ⟨rfl, hb1⟩
              have hB1 := bel_step hB0 hb1
              have X1 := X0.bel hb1
              have Y1 := Y0.bel hb1
              have x10 : w1.cell? ⟨w.heap.size, 0, none⟩ = some (.slice a0 n0 c0) := X1.cell 0 (by simp)
              have x11 : w1.cell? ⟨w.heap.size, 1, none⟩ = some (.slice a1 n1 c1) := X1.cell 1 (by simp)
              have x12 : w1.cell? ⟨w.heap.size, 2, none⟩ = some (.slice a2 n2 c2) := X1.cell 2 (by simp)
              have y10 : w1.cell? ⟨w.heap.size + 1, 0, none⟩ = some (.int .i64 f.depot) := Y1.cell 0 (by simp)
              have y11 : w1.cell? ⟨w.heap.size + 1, 1, none⟩ = some (.int .i64 f.start) := Y1.cell 1 (by simp)
              have y12 : w1.cell? ⟨w.heap.size + 1, 2, none⟩ = some (.int .i64 f.veh) := Y1.cell 2 (by simp)
              have y13 : w1.cell? ⟨w.heap.size + 1, 3, none⟩ = some (.int .i64 f.room) := Y1.cell 3 (by simp)
              have y14 : w1.cell? ⟨w.heap.size + 1, 4, none⟩ = some (.slice a nt c) := Y1.cell 4 (by simp)
              have xl1 := X1.lt
              have yl1 := Y1.lt
              go_wp2_with fail
              refine (spotIs_r _ _ _ _ _ _ _ _ _ _ _ _ k1).mono ?_
              rintro e w2 ⟨rfl, hb2⟩
              have hB2 := bel_step hB1 hb2
              have X2 := X1.bel hb2
              have Y2 := Y1.bel hb2
              have x20 : w2.cell? ⟨w.heap.size, 0, none⟩ = some (.slice a0 n0 c0) := X2.cell 0 (by simp)
              have x21 : w2.cell? ⟨w.heap.size, 1, none⟩ = some (.slice a1 n1 c1) := X2.cell 1 (by simp)
              have x22 : w2.cell? ⟨w.heap.size, 2, none⟩ = some (.slice a2 n2 c2) := X2.cell 2 (by simp)
              have y20 : w2.cell? ⟨w.heap.size + 1, 0, none⟩ = some (.int .i64 f.depot) := Y2.cell 0 (by simp)
              have y21 : w2.cell? ⟨w.heap.size + 1, 1, none⟩ = some (.int .i64 f.start) := Y2.cell 1 (by simp)
              have y22 : w2.cell? ⟨w.heap.size + 1, 2, none⟩ = some (.int .i64 f.veh) := Y2.cell 2 (by simp)
              have y23 : w2.cell? ⟨w.heap.size + 1, 3, none⟩ = some (.int .i64 f.room) := Y2.cell 3 (by simp)
              have y24 : w2.cell? ⟨w.heap.size + 1, 4, none⟩ = some (.slice a nt c) := Y2.cell 4 (by simp)
              have xl2 := X2.lt
              have yl2 := Y2.lt
              clear x10 x11 x12 y10 y11 y12 y13 y14 xl1 yl1 X1 Y1 X0 Y0
              go_wp2
              go_ret
              exact ⟨ret_bl HR.out, hB2⟩
          · have e4 := decide_eq_false k4
            have u2 : upB f.start 1000000 = true := by simp [upB, k2, k3]
            have HR : Hid (false = fleetB g f) := (by unfold fleetB; rw [k0, H0.out, k1, u2, e4] <;> simp : false = fleetB g f)
            go_enter Try.func6, Try.ntmps6
            go_wp2_with fail
            refine (specGraphOkT_r _ g bg _ _ (hV'.bel hB0) hQ k0).mono ?_
            rintro e w1 ⟨rfl, hb1⟩
            have hB1 := bel_step hB0 hb1
            have X1 := X0.bel hb1
            have Y1 := Y0.bel hb1
            have x10 : w1.cell? ⟨w.heap.size, 0, none⟩ = some (.slice a0 n0 c0) := X1.cell 0 (by simp)
            have x11 : w1.cell? ⟨w.heap.size, 1, none⟩ = some (.slice a1 n1 c1) := X1.cell 1 (by simp)
            have x12 : w1.cell? ⟨w.heap.size, 2, none⟩ = some (.slice a2 n2 c2) := X1.cell 2 (by simp)
            have y10 : w1.cell? ⟨w.heap.size + 1, 0, none⟩ = some (.int .i64 f.depot) := Y1.cell 0 (by simp)
            have y11 : w1.cell? ⟨w.heap.size + 1, 1, none⟩ = some (.int .i64 f.start) := Y1.cell 1 (by simp)
            have y12 : w1.cell? ⟨w.heap.size + 1, 2, none⟩ = some (.int .i64 f.veh) := Y1.cell 2 (by simp)
            have y13 : w1.cell? ⟨w.heap.size + 1, 3, none⟩ = some (.int .i64 f.room) := Y1.cell 3 (by simp)
            have y14 : w1.cell? ⟨w.heap.size + 1, 4, none⟩ = some (.slice a nt c) := Y1.cell 4 (by simp)
            have xl1 := X1.lt
            have yl1 := Y1.lt
            go_wp2_with fail
            refine (spotIs_r _ _ _ _ _ _ _ _ _ _ _ _ k1).mono ?_
            rintro e w2 ⟨rfl, hb2⟩
            have hB2 := bel_step hB1 hb2
            have X2 := X1.bel hb2
            have Y2 := Y1.bel hb2
            have x20 : w2.cell? ⟨w.heap.size, 0, none⟩ = some (.slice a0 n0 c0) := X2.cell 0 (by simp)
            have x21 : w2.cell? ⟨w.heap.size, 1, none⟩ = some (.slice a1 n1 c1) := X2.cell 1 (by simp)
            have x22 : w2.cell? ⟨w.heap.size, 2, none⟩ = some (.slice a2 n2 c2) := X2.cell 2 (by simp)
            have y20 : w2.cell? ⟨w.heap.size + 1, 0, none⟩ = some (.int .i64 f.depot) := Y2.cell 0 (by simp)
            have y21 : w2.cell? ⟨w.heap.size + 1, 1, none⟩ = some (.int .i64 f.start) := Y2.cell 1 (by simp)
            have y22 : w2.cell? ⟨w.heap.size + 1, 2, none⟩ = some (.int .i64 f.veh) := Y2.cell 2 (by simp)
            have y23 : w2.cell? ⟨w.heap.size + 1, 3, none⟩ = some (.int .i64 f.room) := Y2.cell 3 (by simp)
            have y24 : w2.cell? ⟨w.heap.size + 1, 4, none⟩ = some (.slice a nt c) := Y2.cell 4 (by simp)
            have xl2 := X2.lt
            have yl2 := Y2.lt
            clear x10 x11 x12 y10 y11 y12 y13 y14 xl1 yl1 X1 Y1 X0 Y0
            go_wp2
            go_ret
            exact ⟨ret_bl HR.out, hB2⟩
        · have e3 := decide_eq_false k3
          have u : upB f.start 1000000 = false := by simp [upB, k3]
          have HR : Hid (false = fleetB g f) := (by unfold fleetB; rw [k0, H0.out, k1, u] <;> simp : false = fleetB g f)
          go_enter Try.func6, Try.ntmps6
          go_wp2_with fail
          refine (specGraphOkT_r _ g bg _ _ (hV'.bel hB0) hQ k0).mono ?_
          rintro e w1 ⟨rfl, hb1⟩
          have hB1 := bel_step hB0 hb1
          have X1 := X0.bel hb1
          have Y1 := Y0.bel hb1
          have x10 : w1.cell? ⟨w.heap.size, 0, none⟩ = some (.slice a0 n0 c0) := X1.cell 0 (by simp)
          have x11 : w1.cell? ⟨w.heap.size, 1, none⟩ = some (.slice a1 n1 c1) := X1.cell 1 (by simp)
          have x12 : w1.cell? ⟨w.heap.size, 2, none⟩ = some (.slice a2 n2 c2) := X1.cell 2 (by simp)
          have y10 : w1.cell? ⟨w.heap.size + 1, 0, none⟩ = some (.int .i64 f.depot) := Y1.cell 0 (by simp)
          have y11 : w1.cell? ⟨w.heap.size + 1, 1, none⟩ = some (.int .i64 f.start) := Y1.cell 1 (by simp)
          have y12 : w1.cell? ⟨w.heap.size + 1, 2, none⟩ = some (.int .i64 f.veh) := Y1.cell 2 (by simp)
          have y13 : w1.cell? ⟨w.heap.size + 1, 3, none⟩ = some (.int .i64 f.room) := Y1.cell 3 (by simp)
          have y14 : w1.cell? ⟨w.heap.size + 1, 4, none⟩ = some (.slice a nt c) := Y1.cell 4 (by simp)
          have xl1 := X1.lt
          have yl1 := Y1.lt
          go_wp2_with fail
          refine (spotIs_r _ _ _ _ _ _ _ _ _ _ _ _ k1).mono ?_
          rintro e w2 ⟨rfl, hb2⟩
          have hB2 := bel_step hB1 hb2
          have X2 := X1.bel hb2
          have Y2 := Y1.bel hb2
          have x20 : w2.cell? ⟨w.heap.size, 0, none⟩ = some (.slice a0 n0 c0) := X2.cell 0 (by simp)
          have x21 : w2.cell? ⟨w.heap.size, 1, none⟩ = some (.slice a1 n1 c1) := X2.cell 1 (by simp)
          have x22 : w2.cell? ⟨w.heap.size, 2, none⟩ = some (.slice a2 n2 c2) := X2.cell 2 (by simp)
          have y20 : w2.cell? ⟨w.heap.size + 1, 0, none⟩ = some (.int .i64 f.depot) := Y2.cell 0 (by simp)
          have y21 : w2.cell? ⟨w.heap.size + 1, 1, none⟩ = some (.int .i64 f.start) := Y2.cell 1 (by simp)
          have y22 : w2.cell? ⟨w.heap.size + 1, 2, none⟩ = some (.int .i64 f.veh) := Y2.cell 2 (by simp)
          have y23 : w2.cell? ⟨w.heap.size + 1, 3, none⟩ = some (.int .i64 f.room) := Y2.cell 3 (by simp)
          have y24 : w2.cell? ⟨w.heap.size + 1, 4, none⟩ = some (.slice a nt c) := Y2.cell 4 (by simp)
          have xl2 := X2.lt
          have yl2 := Y2.lt
          clear x10 x11 x12 y10 y11 y12 y13 y14 xl1 yl1 X1 Y1 X0 Y0
          go_wp2
          go_ret
          exact ⟨ret_bl HR.out, hB2⟩
      · have e2 := decide_eq_false k2
        have u : upB f.start 1000000 = false := by simp [upB, k2]
        have HR : Hid (false = fleetB g f) := (by unfold fleetB; rw [k0, H0.out, k1, u] <;> simp : false = fleetB g f)
        go_enter Try.func6, Try.ntmps6
        go_wp2_with fail
        refine (specGraphOkT_r _ g bg _ _ (hV'.bel hB0) hQ k0).mono ?_
        rintro e w1 ⟨rfl, hb1⟩
        have hB1 := bel_step hB0 hb1
        have X1 := X0.bel hb1
        have Y1 := Y0.bel hb1
        have x10 : w1.cell? ⟨w.heap.size, 0, none⟩ = some (.slice a0 n0 c0) := X1.cell 0 (by simp)
        have x11 : w1.cell? ⟨w.heap.size, 1, none⟩ = some (.slice a1 n1 c1) := X1.cell 1 (by simp)
        have x12 : w1.cell? ⟨w.heap.size, 2, none⟩ = some (.slice a2 n2 c2) := X1.cell 2 (by simp)
        have y10 : w1.cell? ⟨w.heap.size + 1, 0, none⟩ = some (.int .i64 f.depot) := Y1.cell 0 (by simp)
        have y11 : w1.cell? ⟨w.heap.size + 1, 1, none⟩ = some (.int .i64 f.start) := Y1.cell 1 (by simp)
        have y12 : w1.cell? ⟨w.heap.size + 1, 2, none⟩ = some (.int .i64 f.veh) := Y1.cell 2 (by simp)
        have y13 : w1.cell? ⟨w.heap.size + 1, 3, none⟩ = some (.int .i64 f.room) := Y1.cell 3 (by simp)
        have y14 : w1.cell? ⟨w.heap.size + 1, 4, none⟩ = some (.slice a nt c) := Y1.cell 4 (by simp)
        have xl1 := X1.lt
        have yl1 := Y1.lt
        go_wp2_with fail
        refine (spotIs_r _ _ _ _ _ _ _ _ _ _ _ _ k1).mono ?_
        rintro e w2 ⟨rfl, hb2⟩
        have hB2 := bel_step hB1 hb2
        have X2 := X1.bel hb2
        have Y2 := Y1.bel hb2
        have x20 : w2.cell? ⟨w.heap.size, 0, none⟩ = some (.slice a0 n0 c0) := X2.cell 0 (by simp)
        have x21 : w2.cell? ⟨w.heap.size, 1, none⟩ = some (.slice a1 n1 c1) := X2.cell 1 (by simp)
        have x22 : w2.cell? ⟨w.heap.size, 2, none⟩ = some (.slice a2 n2 c2) := X2.cell 2 (by simp)
        have y20 : w2.cell? ⟨w.heap.size + 1, 0, none⟩ = some (.int .i64 f.depot) := Y2.cell 0 (by simp)
        have y21 : w2.cell? ⟨w.heap.size + 1, 1, none⟩ = some (.int .i64 f.start) := Y2.cell 1 (by simp)
        have y22 : w2.cell? ⟨w.heap.size + 1, 2, none⟩ = some (.int .i64 f.veh) := Y2.cell 2 (by simp)
        have y23 : w2.cell? ⟨w.heap.size + 1, 3, none⟩ = some (.int .i64 f.room) := Y2.cell 3 (by simp)
        have y24 : w2.cell? ⟨w.heap.size + 1, 4, none⟩ = some (.slice a nt c) := Y2.cell 4 (by simp)
        have xl2 := X2.lt
        have yl2 := Y2.lt
        clear x10 x11 x12 y10 y11 y12 y13 y14 xl1 yl1 X1 Y1 X0 Y0
        go_wp2
        go_ret
        exact ⟨ret_bl HR.out, hB2⟩
    · skip
      have HR : Hid (false = fleetB g f) := (by unfold fleetB; rw [k0, H0.out, k1] <;> simp : false = fleetB g f)
      go_enter Try.func6, Try.ntmps6
      go_wp2_with fail
      refine (specGraphOkT_r _ g bg _ _ (hV'.bel hB0) hQ k0).mono ?_
      rintro e w1 ⟨rfl, hb1⟩
      have hB1 := bel_step hB0 hb1
      have X1 := X0.bel hb1
      have Y1 := Y0.bel hb1
      have x10 : w1.cell? ⟨w.heap.size, 0, none⟩ = some (.slice a0 n0 c0) := X1.cell 0 (by simp)
      have x11 : w1.cell? ⟨w.heap.size, 1, none⟩ = some (.slice a1 n1 c1) := X1.cell 1 (by simp)
      have x12 : w1.cell? ⟨w.heap.size, 2, none⟩ = some (.slice a2 n2 c2) := X1.cell 2 (by simp)
      have y10 : w1.cell? ⟨w.heap.size + 1, 0, none⟩ = some (.int .i64 f.depot) := Y1.cell 0 (by simp)
      have y11 : w1.cell? ⟨w.heap.size + 1, 1, none⟩ = some (.int .i64 f.start) := Y1.cell 1 (by simp)
      have y12 : w1.cell? ⟨w.heap.size + 1, 2, none⟩ = some (.int .i64 f.veh) := Y1.cell 2 (by simp)
      have y13 : w1.cell? ⟨w.heap.size + 1, 3, none⟩ = some (.int .i64 f.room) := Y1.cell 3 (by simp)
      have y14 : w1.cell? ⟨w.heap.size + 1, 4, none⟩ = some (.slice a nt c) := Y1.cell 4 (by simp)
      have xl1 := X1.lt
      have yl1 := Y1.lt
      go_wp2_with fail
      refine (spotIs_r _ _ _ _ _ _ _ _ _ _ _ _ k1).mono ?_
      rintro e w2 ⟨rfl, hb2⟩
      have hB2 := bel_step hB1 hb2
      have X2 := X1.bel hb2
      have Y2 := Y1.bel hb2
      have x20 : w2.cell? ⟨w.heap.size, 0, none⟩ = some (.slice a0 n0 c0) := X2.cell 0 (by simp)
      have x21 : w2.cell? ⟨w.heap.size, 1, none⟩ = some (.slice a1 n1 c1) := X2.cell 1 (by simp)
      have x22 : w2.cell? ⟨w.heap.size, 2, none⟩ = some (.slice a2 n2 c2) := X2.cell 2 (by simp)
      have y20 : w2.cell? ⟨w.heap.size + 1, 0, none⟩ = some (.int .i64 f.depot) := Y2.cell 0 (by simp)
      have y21 : w2.cell? ⟨w.heap.size + 1, 1, none⟩ = some (.int .i64 f.start) := Y2.cell 1 (by simp)
      have y22 : w2.cell? ⟨w.heap.size + 1, 2, none⟩ = some (.int .i64 f.veh) := Y2.cell 2 (by simp)
      have y23 : w2.cell? ⟨w.heap.size + 1, 3, none⟩ = some (.int .i64 f.room) := Y2.cell 3 (by simp)
      have y24 : w2.cell? ⟨w.heap.size + 1, 4, none⟩ = some (.slice a nt c) := Y2.cell 4 (by simp)
      have xl2 := X2.lt
      have yl2 := Y2.lt
      clear x10 x11 x12 y10 y11 y12 y13 y14 xl1 yl1 X1 Y1 X0 Y0
      go_wp2
      go_ret
      exact ⟨ret_bl HR.out, hB2⟩
  · skip
    have HR : Hid (false = fleetB g f) := (by unfold fleetB; rw [k0] <;> simp : false = fleetB g f)
    go_enter Try.func6, Try.ntmps6
    go_wp2_with fail
    refine (specGraphOkT_r _ g bg _ _ (hV'.bel hB0) hQ k0).mono ?_
    rintro e w1 ⟨rfl, hb1⟩
    have hB1 := bel_step hB0 hb1
    have X1 := X0.bel hb1
    have Y1 := Y0.bel hb1
    have x10 : w1.cell? ⟨w.heap.size, 0, none⟩ = some (.slice a0 n0 c0) := X1.cell 0 (by simp)
    have x11 : w1.cell? ⟨w.heap.size, 1, none⟩ = some (.slice a1 n1 c1) := X1.cell 1 (by simp)
    have x12 : w1.cell? ⟨w.heap.size, 2, none⟩ = some (.slice a2 n2 c2) := X1.cell 2 (by simp)
    have y10 : w1.cell? ⟨w.heap.size + 1, 0, none⟩ = some (.int .i64 f.depot) := Y1.cell 0 (by simp)
    have y11 : w1.cell? ⟨w.heap.size + 1, 1, none⟩ = some (.int .i64 f.start) := Y1.cell 1 (by simp)
    have y12 : w1.cell? ⟨w.heap.size + 1, 2, none⟩ = some (.int .i64 f.veh) := Y1.cell 2 (by simp)
    have y13 : w1.cell? ⟨w.heap.size + 1, 3, none⟩ = some (.int .i64 f.room) := Y1.cell 3 (by simp)
    have y14 : w1.cell? ⟨w.heap.size + 1, 4, none⟩ = some (.slice a nt c) := Y1.cell 4 (by simp)
    have xl1 := X1.lt
    have yl1 := Y1.lt
    go_wp2
    go_ret
    exact ⟨ret_bl HR.out, hB1⟩
end Go.Proofs.Ytgakdeaniojleaa
