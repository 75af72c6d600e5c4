/-
  Contract of Nearest in its model: for every row, every point, every number.
-/
import Derived.Test.YtkinpfnelmdmlaaDoorSortM
import Derived.Test.YtkinpfnelmdmlaaDoorDistC
import Derived.Test.YtkinpfnelmdmlaaDoorPtsC
import Derived.Test.YtkinpfnelmdmlaaDoorAppI
import Derived.Test.YtkinpfnelmdmlaaDoorMem
import Derived.BigRegion
import Derived.BigQuiet
import Derived.Deep.RegionHeld3
import Derived.Deep.DeepCutAuto
import Derived.Deep.CutBlock
namespace Go.Proofs.YtkinpfnelmdmlaaDoor
open Go.RowKit Go.Maps

/-- The first i of a row of numbers, as a list. -/
def lsOX (o : Nat → Nat) (i : Nat) : List Int := (List.range i).map fun x => ((o x : Nat) : Int)
theorem lsO_lenX (o : Nat → Nat) (i : Nat) : (lsOX o i).length = i := by simp [lsOX]
theorem lsO_atX (o : Nat → Nat) {i x : Nat} (h : x < (lsOX o i).length) : (lsOX o i)[x] = ((o x : Nat) : Int) := by simp [lsOX]
theorem lsO_take (o : Nat → Nat) {k i : Nat} (h : k ≤ i) : (lsOX o i).take k = lsOX o k := by
  apply List.ext_getElem
  · simp [lsO_lenX]; omega
  · intro x h1 h2
    rw [List.getElem_take, lsO_atX, lsO_atX]
theorem lsO_same {o o' : Nat → Nat} {i : Nat} (h : ∀ x, x < i → o x = o' x) : lsOX o i = lsOX o' i := by
  unfold lsOX
  exact List.map_congr_left fun x hx => by rw [h x (List.mem_range.1 hx)]
theorem lsO_insX (o : Nat → Nat) {i n l : Nat} (hl : l ≤ n) (hn : n ≤ i) : ((lsOX o n).take l ++ [(i : Int)]) ++ (lsOX o n).drop l = lsOX (rot (fun x => if x = i then i else o x) l i (i + 1)) (n + 1) := by
  have e0 : (lsOX o n).length = n := lsO_lenX o n
  apply List.ext_getElem
  · simp [lsO_lenX]; omega
  · intro x h1 h2
    rw [lsO_atX]
    by_cases c1 : x < l
    · rw [List.getElem_append_left (by simp [lsO_lenX]; omega), List.getElem_append_left (by simp [lsO_lenX]; omega), List.getElem_take, lsO_atX, rot_out _ (by omega) (by omega) (Or.inl c1), if_neg (by omega)]
    · by_cases c2 : x = l
      · subst c2
        rw [List.getElem_append_left (by simp [lsO_lenX]; omega), List.getElem_append_right (by rw [List.length_take, lsO_lenX]; omega)]
        rw [rot_fst _ (by omega) (by omega), if_pos (by omega)]
        simp
      · have hx : x < n + 1 := by rw [lsO_lenX] at h2; exact h2
        rw [List.getElem_append_right (by simp [lsO_lenX]; omega), List.getElem_drop, lsO_atX, rot_snd _ (by omega) (by omega), if_neg (by omega)]
        congr 2
        simp [lsO_lenX]; omega
theorem lsO_in64X {o : Nat → Nat} {i n : Nat} (h : ∀ x, x < i → o x < n) (hn : n ≤ 1048576) : ∀ y ∈ lsOX o i, In64 y := by
  intro y hy
  obtain ⟨x, hx, rfl⟩ := List.mem_map.1 hy
  have := h x (List.mem_range.1 hx)
  exact ⟨by omega, by omega⟩
/-- The beginning of a row of the call's own. -/
theorem own_take {base : Nat} {w : World} {g n cap : Nat} {l : List Int} (h : OwnI base w (.slice (some ⟨g, 0, none⟩) n cap) l) {k : Nat} (hk : k ≤ n) : OwnI base w (.slice (some ⟨g, 0, none⟩) k cap) (l.take k) := by
  obtain ⟨_, _, hn⟩ := own_at h
  subst hn
  obtain ⟨_, h2⟩ := h
  have hlk : (l.take k).length = k := by rw [List.length_take]; omega
  refine ⟨by rw [intsV_len, Nat.mul_one], ?_⟩
  rcases h2 with ⟨e, _⟩ | ⟨g', cap', cur, e, hb, hc, h1, h3, h4, h5⟩
  · cases e
  · injection e with e1 e2 e3
    injection e1 with e1
    injection e1 with e1
    subst e1; subst e3
    refine .inr ⟨g, cap, cur, by rw [hlk], hb, hc, by rw [hlk]; omega, h3, h4, ?_⟩
    rw [Nat.mul_one] at h5 ⊢
    have e : intsV (l.take k) = (intsV l).take k := by unfold intsV; rw [List.map_take]
    rw [e, ← h5, hlk, List.take_take, Nat.min_eq_left hk]

/-- The numbers of the nearest ones; nothing where something can't be. -/
def NstL (n : Nat) (X Y : Nat → Int) (px py k : Int) (l : List Int) : Prop :=
  (¬ (rowB n X Y = true ∧ pok px py = true ∧ 1 ≤ k) ∧ l = []) ∨ ((rowB n X Y = true ∧ pok px py = true ∧ 1 ≤ k) ∧ ∃ o, Bk (fun i => dsq px py (X i) (Y i)) o 0 n ∧ l = lsOX o (min n k.toNat))

set_option maxRecDepth 100000 in
set_option maxHeartbeats 8000000 in
theorem specNearest_any (a : Option Addr) (n c : Nat) (X Y : Nat → Int) (px py k : Int) (w : World) (hP : Pts w a n X Y) (hn : n ≤ 1048576) (wk : In64 k) :
    Calls Tryd.prog 14 #[.slice a n c, pt px py, .int .i64 k] w fun e w' => ∃ v l, e = .returned v ∧ OwnI w.heap.size w' v l ∧ NstL n X Y px py k l ∧ Bel w w' := by
  have HP : Hid (Pts w a n X Y) := hP
  obtain ⟨W1, HW1⟩ : ∃ V : World, Hid (V = (w.alloc (.cells #[.int .i64 px, .int .i64 py] 26)).alloc (.cells #[] 2)) := ⟨_, (rfl : (w.alloc (.cells #[.int .i64 px, .int .i64 py] 26)).alloc (.cells #[] 2) = _)⟩
  obtain ⟨W0, HW0⟩ : ∃ V : World, Hid (V = w.alloc (.cells #[.int .i64 px, .int .i64 py] 26)) := ⟨_, (rfl : w.alloc (.cells #[.int .i64 px, .int .i64 py] 26) = _)⟩
  have hBW : Bel w W0 := by rw [HW0.out]; exact bel_alloc (Bel.refl _) _
  have XB : Blk W0 w.heap.size [.int .i64 px, .int .i64 py] := by rw [HW0.out]; exact Blk.new w [.int .i64 px, .int .i64 py] _
  have hs0 : W0.heap.size = w.heap.size + 1 := by rw [HW0.out]; simp
  have hB01 : Bel W0 W1 := by rw [HW1.out, ← HW0.out]; exact bel_alloc (Bel.refl _) _
  have O0 : OwnI (w.heap.size + 1) W1 (.slice (some ⟨w.heap.size + 1, 0, none⟩) 0 0) [] := by
    have h := World.ownsRow_lit (base := w.heap.size + 1) (e := 2) (size := 1) W0 #[] 0 (by omega) (Nat.zero_le _) rfl
    rw [hs0, HW0.out] at h
    rw [HW1.out]; exact h
  have HS0 : Hid (W0.heap.size = w.heap.size + 1) := hs0
  clear hP HW0
  go_enter Tryd.func14, Tryd.ntmps14
  go_wp2_with fail
  rw [← HW1.out]
  refine (specRowOk_any _ _ _ X Y _ (HP.out.bel (bel_step hBW hB01)) hn).mono ?_
  rintro e w1 ⟨rfl, S1⟩
  have S01 : Bel W0 w1 := bel_step hB01 S1
  have O1 : OwnI (w.heap.size + 1) w1 (.slice (some ⟨w.heap.size + 1, 0, none⟩) 0 0) [] := own_bel O0 S1
  have XB1 := XB.bel S01
  have c0 := XB1.cell 0 (by simp)
  have c1 := XB1.cell 1 (by simp)
  simp only [List.getElem_cons_zero, List.getElem_cons_succ] at c0 c1
  have hl1 := XB1.lt
  clear O0 hB01 S1 XB1 hs0
  cases hok : rowB n X Y
  · have HS : Hid (NstL n X Y px py k []) := (Or.inl ⟨(fun h => by rw [hok] at h; cases h.1), rfl⟩ : NstL n X Y px py k [])
    have HO : Hid (OwnI w.heap.size w1 (.slice (some ⟨w.heap.size + 1, 0, none⟩) 0 0) []) := own_base O1 (Nat.le_succ _)
    clear O1 hok
    go_wp2
    go_ret
    exact ⟨_, [], rfl, HO.out, HS.out, bel_step hBW S01⟩
  · have HRB : Hid (rowB n X Y = true) := hok
    obtain ⟨h20, hX⟩ := rowB_out hok
    have HX : Hid (∀ i, i < n → POk (X i) (Y i)) := hX
    clear hok hX
    go_wp2_with fail
    refine (specPointOk_any _ _ _).mono ?_
    rintro e w2 ⟨rfl, S2⟩
    have S02 : Bel W0 w2 := bel_step S01 S2
    have O2 : OwnI (w.heap.size + 1) w2 (.slice (some ⟨w.heap.size + 1, 0, none⟩) 0 0) [] := own_bel O1 S2
    clear O1 c0 c1 hl1 S2 S01
    cases hpk : pok px py
    · have HS : Hid (NstL n X Y px py k []) := (Or.inl ⟨(fun h => by rw [hpk] at h; cases h.2.1), rfl⟩ : NstL n X Y px py k [])
      have HO : Hid (OwnI w.heap.size w2 (.slice (some ⟨w.heap.size + 1, 0, none⟩) 0 0) []) := own_base O2 (Nat.le_succ _)
      clear O2 hpk
      go_wp2
      go_ret
      exact ⟨_, [], rfl, HO.out, HS.out, bel_step hBW S02⟩
    · have HPk : Hid (pok px py = true) := hpk
      have hpp := pOk_iff.1 hpk
      clear hpk
      by_cases hk1 : k < 1
      · have HS : Hid (NstL n X Y px py k []) := (Or.inl ⟨(fun h => by have := h.2.2; omega), rfl⟩ : NstL n X Y px py k [])
        have HO : Hid (OwnI w.heap.size w2 (.slice (some ⟨w.heap.size + 1, 0, none⟩) 0 0) []) := own_base O2 (Nat.le_succ _)
        clear O2
        go_wp2
        go_ret
        exact ⟨_, [], rfl, HO.out, HS.out, bel_step hBW S02⟩
      · obtain ⟨kk, rfl⟩ : ∃ kk : Nat, k = kk := ⟨k.toNat, by omega⟩
        have hkk : 1 ≤ kk := by omega
        have hkk9 : kk ≤ 9223372036854775807 := by have := wk.2; omega
        have HI0 : Hid (OwnI (w.heap.size + 1) w2 (.slice (some ⟨w.heap.size + 1, 0, none⟩) 0 0) (lsOX (fun i => i) 0)) := O2
        clear O2 wk
        go_wp2
        go_loopw [7, 8, 9, 10] (fun v u _ _ wr => ∃ (i g cap ln : Nat) (o : Nat → Nat), i ≤ n ∧ u = .int .i64 i ∧ ln = min i kk ∧ v = .slice (some ⟨g, 0, none⟩) ln cap ∧ OwnI (w.heap.size + 1) wr (.slice (some ⟨g, 0, none⟩) ln cap) (lsOX o ln) ∧ Bk (fun i => dsq px py (X i) (Y i)) o 0 i ∧ Bel W0 wr) (fun _ u _ _ _ => n - (intOf u).toNat)
        case atStart => exact ⟨0, _, _, 0, _, Nat.zero_le _, rfl, by omega, rfl, HI0.out, Bk.nil _ _ (Nat.le_refl _), S02⟩
        case round =>
          clear HI0
          obtain ⟨i, g, cap, ln, o, hi, rfl, hln, rfl, hO, hB, hBr⟩ := hrel
          have HLn : Hid (ln = min i kk) := hln
          have hl1 : ln ≤ i := by omega
          have hl2 : ln ≤ kk := by omega
          have HB : Hid (Bk (fun i => dsq px py (X i) (Y i)) o 0 i) := hB
          clear hB hln
          by_cases hlt : i < n
          · have hlt' : (i : Int) < (n : Int) := by omega
            rcases HP.out.bel (bel_step hBW hBr) with h | ⟨b, off, rfl, h2, h3⟩
            · omega
            obtain ⟨cx, cy⟩ := h3 i hlt
            obtain ⟨x, Hx⟩ : ∃ x, Hid (X i = x) := ⟨_, (rfl : X i = _)⟩
            obtain ⟨y, Hy⟩ : ∃ x, Hid (Y i = x) := ⟨_, (rfl : Y i = _)⟩
            rw [Hx.out] at cx
            rw [Hy.out] at cy
            have HC : Hid (∀ j, j < n → wr.cell? ⟨b, off + j * 2, none⟩ = some (.int .i64 (X j)) ∧ wr.cell? ⟨b, off + j * 2 + 1, none⟩ = some (.int .i64 (Y j))) := h3
            have hxi : POk x y := by rw [← Hx.out, ← Hy.out]; exact HX.out i hlt
            have XBr := XB.bel hBr
            have g0 : Bel wr wr := Bel.refl _
            have hR : ∀ w', Bel wr w' → w'.cell? ⟨w.heap.size, 0, none⟩ = some (.int .i64 px) ∧ w'.cell? ⟨w.heap.size, 1, none⟩ = some (.int .i64 py) ∧ w'.cell? ⟨b, off + i * 2, none⟩ = some (.int .i64 x) ∧ w'.cell? ⟨b, off + i * 2 + 1, none⟩ = some (.int .i64 y) := fun w' h => ⟨(XBr.bel h).cell 0 (by simp), (XBr.bel h).cell 1 (by simp), bel_cellM h h2 cx, bel_cellM h h2 cy⟩
            obtain ⟨dd, Hdd⟩ : ∃ d, Hid (dsq px py x y = d) := ⟨_, (rfl : dsq px py x y = _)⟩
            have cQ := fun w' => square_any px py x y w' hpp hxi
            rw [Hdd.out] at cQ
            have hgl : g < wr.heap.size := (own_at hO).2.1
            have HO : Hid (OwnI (w.heap.size + 1) wr (.slice (some ⟨g, 0, none⟩) ln cap) (lsOX o ln)) := hO
            have hvo : ∀ h, h < ln → o h < i := fun h hh => (HB.out.2 h (Nat.zero_le _) (by omega)).2
            have HI : Hid (∃ bs, Ints wr (some ⟨g, 0, none⟩) (lsOX o ln) bs) := by
              obtain ⟨a', c', bs', e', I', _⟩ := own_ints hO (lsO_in64X hvo (by omega))
              injection e' with e1 e2 e3
              subst e1
              exact ⟨bs', I'⟩
            have HCo : Hid (∀ h, h < ln → wr.cell? ⟨g, h, none⟩ = some (.int .i64 ((o h : Nat) : Int))) := fun h hh => by
              obtain ⟨bs', I'⟩ := HI.out
              obtain ⟨b1, off1, f1, e4, _, hx1⟩ := I'.out (k := h) (by rw [lsO_lenX]; exact hh)
              injection e4 with e4
              injection e4 with e5 e6
              subst e5; subst e6
              have := (hx1 h (by rw [lsO_lenX]; exact hh)).2.2
              rw [lsO_atX, Nat.zero_add, Nat.mul_one] at this
              exact this
            have HVO : Hid (∀ h, h < ln → o h < i) := hvo
            clear h3 hO hvo
            go_wp2
            go_region_held3 (fun w' => Bel wr w') (with_reducible (repeat (first | exact g0 | refine Bel.drew ?_ | assumption)))
              (first
                | (go_at_call 32; refine (cQ _).mono ?_; rintro e w4 ⟨rfl, hb4⟩; refine (fun hq : Bel wr w4 => ?_) (bel_step (by assumption) hb4)))
            clear hR hb4 cx cy cQ g0
            obtain ⟨w0, hw0⟩ : ∃ V : World, V = wr := ⟨wr, rfl⟩
            subst hw0
            go_upto_block 2 with fail
            go_cut [10] (fun u wx => ∃ t : Nat, u = .int .i64 t ∧ t ≤ ln ∧ (∀ x, x < t → dsq px py (X (o x)) (Y (o x)) ≤ dd) ∧ (∀ x, t ≤ x → x < ln → dd < dsq px py (X (o x)) (Y (o x))) ∧ Bel w0 wx)
            case first =>
              go_wp2_with fail
              go_loopw [10] (fun u wr => ∃ t : Nat, u = .int .i64 t ∧ t ≤ ln ∧ (∀ x, t ≤ x → x < ln → dd < dsq px py (X (o x)) (Y (o x))) ∧ Bel w0 wr) (fun u _ => (intOf u).toNat)
              case atStart => exact ⟨ln, rfl, Nat.le_refl _, fun x h1 h2 => absurd h2 (by omega), hq⟩
              case round =>
                clear hq
                obtain ⟨t, rfl, htl, hhi, hbr⟩ := hrel
                have HHI : Hid (∀ x, t ≤ x → x < ln → dd < dsq px py (X (o x)) (Y (o x))) := hhi
                clear hhi
                by_cases ht0 : 0 < t
                · obtain ⟨q, hq1⟩ : ∃ q, q + 1 = t := ⟨t - 1, by omega⟩
                  have Hq1 : Hid (q + 1 = t) := hq1
                  have hwq : IntKind.i64.wrap ((t : Int) - 1) = (q : Int) := by rw [IntKind.wrap_i64]; omega
                  have Hqi : Hid ((t : Int) - 1 = (q : Int)) := by show (t : Int) - 1 = (q : Int); omega
                  have hql : q < ln := by omega
                  have hql' : (q : Int) < (ln : Int) := by omega
                  have ht0' : (0 : Int) < (t : Int) := by omega
                  have htb : decide ((t : Int) > 0) = true := decide_eq_true ht0'
                  obtain ⟨z, Hz⟩ : ∃ z, Hid (o q = z) := ⟨_, (rfl : o q = _)⟩
                  have hzn : z < n := by have := HVO.out q hql; rw [Hz.out] at this; omega
                  have hzn' : (z : Int) < (n : Int) := by omega
                  have ro := HCo.out q hql
                  rw [Hz.out] at ro
                  obtain ⟨u1, u2⟩ := HC.out z hzn
                  obtain ⟨zx, Hzx⟩ : ∃ x, Hid (X z = x) := ⟨_, (rfl : X z = _)⟩
                  obtain ⟨zy, Hzy⟩ : ∃ x, Hid (Y z = x) := ⟨_, (rfl : Y z = _)⟩
                  rw [Hzx.out] at u1
                  rw [Hzy.out] at u2
                  have hzi : POk zx zy := by rw [← Hzx.out, ← Hzy.out]; exact HX.out z hzn
                  have g0 : Bel wr wr := Bel.refl _
                  have hR : ∀ w', Bel wr w' → w'.cell? ⟨w.heap.size, 0, none⟩ = some (.int .i64 px) ∧ w'.cell? ⟨w.heap.size, 1, none⟩ = some (.int .i64 py) ∧ w'.cell? ⟨b, off + z * 2, none⟩ = some (.int .i64 zx) ∧ w'.cell? ⟨b, off + z * 2 + 1, none⟩ = some (.int .i64 zy) ∧ w'.cell? ⟨g, q, none⟩ = some (.int .i64 (z : Int)) := fun w' h => ⟨(XBr.bel (bel_step hbr h)).cell 0 (by simp), (XBr.bel (bel_step hbr h)).cell 1 (by simp), bel_cellM (bel_step hbr h) h2 u1, bel_cellM (bel_step hbr h) h2 u2, bel_cellM (bel_step hbr h) hgl ro⟩
                  obtain ⟨kq, Hkq⟩ : ∃ k, Hid (dsq px py zx zy = k) := ⟨_, (rfl : dsq px py zx zy = _)⟩
                  have HKq : Hid (dsq px py (X (o q)) (Y (o q)) = kq) := by show dsq px py (X (o q)) (Y (o q)) = kq; rw [Hz.out, Hzx.out, Hzy.out]; exact Hkq.out
                  have cQ := fun w' => square_any px py zx zy w' hpp hzi
                  rw [Hkq.out] at cQ
                  clear hq1 ro u1 u2
                  by_cases hK : dd < kq
                  · have hKb : decide (kq > dd) = true := decide_eq_true hK
                    have HN : Hid (∀ x, q ≤ x → x < ln → dd < dsq px py (X (o x)) (Y (o x))) := fun x hx1 hx2 => by
                      by_cases e : x = q
                      · subst e; rw [HKq.out]; exact hK
                      · exact HHI.out x (by have := Hq1.out; omega) hx2
                    go_wp2
                    go_region_held3 (fun w' => Bel wr w') (with_reducible (repeat (first | exact g0 | refine Bel.drew ?_ | assumption)))
                      (first
                        | (go_at_call 32; refine (cQ _).mono ?_; rintro e w5 ⟨rfl, hb5⟩; refine (fun hq : Bel wr w5 => ?_) (bel_step (by assumption) hb5)))
                    clear hR hb5 cQ g0
                    have hqi := Hqi.out
                    go_wp2
                    go_roundw
                    case rel => exact ⟨q, rfl, by omega, HN.out, bel_step hbr hq⟩
                    case measure => have := Hq1.out; simp [intOf]; omega
                  · have hKb : decide (kq > dd) = false := decide_eq_false hK
                    have HN : Hid (∀ x, x < t → dsq px py (X (o x)) (Y (o x)) ≤ dd) := fun x hx => by
                      have hm := HB.out.1.le (Nat.zero_le x) (show x ≤ q by have := Hq1.out; omega) (by omega)
                      have hkq := HKq.out
                      rcases hm with e | e
                      · subst e; omega
                      · unfold Ro at e; dsimp only at e; omega
                    go_wp2
                    go_region_held3 (fun w' => Bel wr w') (with_reducible (repeat (first | exact g0 | refine Bel.drew ?_ | assumption)))
                      (first
                        | (go_at_call 32; refine (cQ _).mono ?_; rintro e w5 ⟨rfl, hb5⟩; refine (fun hq : Bel wr w5 => ?_) (bel_step (by assumption) hb5)))
                    clear hR hb5 cQ g0
                    go_wp2_with fail
                    go_meet
                    case rel => exact ⟨t, rfl, htl, HN.out, HHI.out, bel_step hbr hq⟩
                · obtain rfl : t = 0 := by omega
                  go_wp2
                  go_big_region
                  go_wp2_with fail
                  go_meet
                  case rel => exact ⟨0, rfl, htl, fun x hx => absurd hx (Nat.not_lt_zero _), HHI.out, bel_step hbr (Bel.drew (Bel.refl _))⟩
            case rest =>
              clear hq
              obtain ⟨lo, rfl, hlo, hle1, hgt1, hbc⟩ := hcut
              have HL1 : Hid (∀ x, x < lo → dsq px py (X (o x)) (Y (o x)) ≤ dd) := hle1
              have HL2 : Hid (∀ x, lo ≤ x → x < ln → dd < dsq px py (X (o x)) (Y (o x))) := hgt1
              have HKi : Hid (dsq px py (X i) (Y i) = dd) := by show dsq px py (X i) (Y i) = dd; rw [Hx.out, Hy.out]; exact Hdd.out
              clear hle1 hgt1
              by_cases hlk : lo < kk
              · have hlk' : (lo : Int) < (kk : Int) := by omega
                have HN : Hid (Bk (fun i => dsq px py (X i) (Y i)) (rot (fun x => if x = i then i else o x) lo i (i + 1)) 0 (i + 1)) := by
                  refine HB.out.ins (by omega) (fun x hx => ?_) (fun x hx1 hx2 => ?_)
                  · show ¬ dsq px py (X i) (Y i) < _
                    rw [HKi.out]; have := HL1.out x hx; omega
                  · show dsq px py (X i) (Y i) < _
                    rw [HKi.out]
                    by_cases hxl : x < ln
                    · exact HL2.out x hx1 hxl
                    · have h1 := HL2.out (ln - 1) (by have := HLn.out; omega) (by have := HLn.out; omega)
                      have h2 := HB.out.1.le (Nat.zero_le (ln - 1)) (show ln - 1 ≤ x by omega) hx2
                      rcases h2 with e | e
                      · rw [← e]; exact h1
                      · unfold Ro at e; dsimp only at e; omega
                obtain ⟨ls, Hls⟩ : ∃ l, Hid (lsOX o ln = l) := ⟨_, (rfl : lsOX o ln = _)⟩
                have HLen : Hid (ls.length = ln) := by show ls.length = ln; rw [← Hls.out]; exact lsO_lenX o ln
                have HE : Hid ((ls.take lo ++ [(i : Int)]) ++ ls.drop lo = lsOX (rot (fun x => if x = i then i else o x) lo i (i + 1)) (ln + 1)) := by rw [← Hls.out]; exact lsO_insX o hlo hl1
                rw [Hls.out] at HO HI
                have hBU : Bel w0 wc.drew := bel_step hbc (Bel.drew (Bel.refl _))
                have hBw : Bel W0 w0 := hBr
                have hcap : ln ≤ cap := HO.out.2.elim (fun h => by cases h.1) (fun ⟨_, _, _, e, _, _, h, _⟩ => by injection e with _ _ e; omega)
                have hlo0 : (0 : Int) ≤ (lo : Int) := by omega
                have hlc : (lo : Int) ≤ (cap : Int) := by omega
                have hli : (lo : Int) ≤ (ln : Int) := by omega
                have hic : (ln : Int) ≤ (cap : Int) := by omega
                have HS1 : Hid (w.heap.size + 1 = W0.heap.size) := HS0.out.symm
                clear hbc
                by_cases hik : i < kk
                · have HZ : Hid (ln = i) := by show ln = i; rw [HLn.out]; omega
                  have hgtk : ¬ ((ln + 1 : Nat) : Int) > (kk : Int) := by have := HZ.out; omega
                  have hgtk2 : ¬ (kk : Int) < (ln : Int) + 1 := by have := HZ.out; omega
                  go_wp2
                  obtain ⟨U, hU⟩ : ∃ V : World, V = wc.drew := ⟨_, rfl⟩
                  have hBwU : Bel W0 U := by rw [hU]; exact bel_step hBw hBU
                  have HIT : Hid (∀ V, Bel U V → ∃ bs, Ints V (some ⟨g, 0, none⟩) (ls.take lo) bs) := fun V h => by obtain ⟨bs, I0⟩ := HI.out; exact ints_take (I0.bel intE (bel_step (by rw [hU]; exact hBU) h)) lo
                  have HIX : Hid (∀ V, Bel U V → ∀ ad : Option Addr, (lo < ln → ad = some ⟨g, lo, none⟩) → ∃ bs, Ints V ad (ls.drop lo) bs) := fun V h ad had => by
                    by_cases hc : lo < ln
                    · obtain ⟨bs, I0⟩ := HI.out
                      have := ints_drop (I0.bel intE (bel_step (show Bel w0 U by rw [hU]; exact hBU) h)) lo
                      rw [Nat.zero_add] at this; rw [had hc]; exact this
                    · have e : ls.drop lo = [] := List.drop_eq_nil_of_le (by rw [HLen.out]; omega)
                      rw [e]; exact ⟨[], Sl.nil⟩
                  have HTl : Hid ((ls.take lo).length = lo) := by show (ls.take lo).length = lo; rw [List.length_take, HLen.out]; omega
                  have HDl : Hid ((ls.drop lo).length = ln - lo) := by show (ls.drop lo).length = ln - lo; rw [List.length_drop, HLen.out]
                  have hin : In64 (i : Int) := ⟨by omega, by omega⟩
                  refine wp_region_noPanic ?_
                  refine wp_region_held_drew (S := fun _ => True) (by kernel_rfl) trivial (fun hHeld => ?_)
                  rw [← hU]
                  clear hU hBU
                  refine wpAnyH_take (S := fun _ => True) (i := 1) (oi := { dst := some 61, op := Go.Op.move (Go.Operand.tmp 7), type := 31, pos := "l05_space.go:149", after := #[], guard := none }) (v := ?vz1) rfl (by kernel_rfl) (by kernel_rfl) (by kernel_rfl) (fun _ _ _ h => h) (Or.inl ⟨by rfl, ?hz1⟩) trivial ?rz1
                  case hz1 => (intro w hSw; (try dsimp only at hSw); go_simp; try with_reducible rfl)
                  try simp only [Act.put, List.setIfInBounds_toArray, List.set_cons_zero, List.set_cons_succ]
                  refine wpAnyH_take (S := fun _ => True) (i := 2) (oi := { dst := some 62, op := Go.Op.move (Go.Operand.tmp 10), type := 3, pos := "l05_space.go:149", after := #[], guard := none }) (v := ?vz2) rfl (by kernel_rfl) (by kernel_rfl) (by kernel_rfl) (fun _ _ _ h => h) (Or.inl ⟨by rfl, ?hz2⟩) trivial ?rz2
                  case hz2 => (intro w hSw; (try dsimp only at hSw); go_simp; try with_reducible rfl)
                  try simp only [Act.put, List.setIfInBounds_toArray, List.set_cons_zero, List.set_cons_succ]
                  refine wpAnyH_take (S := fun _ => True) (i := 3) (oi := { dst := some 63, op := Go.Op.slice 31 (Go.Operand.tmp 61) none (some (Go.Operand.tmp 62)) none, type := 31, pos := "l05_space.go:149", after := #[{ on := 1, ground := Go.Ground.data }, { on := 2, ground := Go.Ground.data }], guard := none }) (v := ?vz3) rfl (by kernel_rfl) (by kernel_rfl) (by kernel_rfl) (fun _ _ _ h => h) (Or.inl ⟨by rfl, ?hz3⟩) trivial ?rz3
                  case hz3 => (intro w hSw; (try dsimp only at hSw); go_simp; try with_reducible rfl)
                  try simp only [Act.put, List.setIfInBounds_toArray, List.set_cons_zero, List.set_cons_succ]
                  refine wpAnyH_take (S := fun _ => True) (i := 5) (oi := { dst := some 65, op := Go.Op.move (Go.Operand.tmp 8), type := 3, pos := "l05_space.go:149", after := #[], guard := none }) (v := ?vz4) rfl (by kernel_rfl) (by kernel_rfl) (by kernel_rfl) (fun _ _ _ h => h) (Or.inl ⟨by rfl, ?hz4⟩) trivial ?rz4
                  case hz4 => (intro w hSw; (try dsimp only at hSw); go_simp; try with_reducible rfl)
                  try simp only [Act.put, List.setIfInBounds_toArray, List.set_cons_zero, List.set_cons_succ]
                  refine wpAnyH_take (S := fun _ => True) (i := 8) (oi := { dst := some 68, op := Go.Op.move (Go.Operand.tmp 7), type := 31, pos := "l05_space.go:149", after := #[], guard := none }) (v := ?vz5) rfl (by kernel_rfl) (by kernel_rfl) (by kernel_rfl) (fun _ _ _ h => h) (Or.inl ⟨by rfl, ?hz5⟩) trivial ?rz5
                  case hz5 => (intro w hSw; (try dsimp only at hSw); go_simp; try with_reducible rfl)
                  try simp only [Act.put, List.setIfInBounds_toArray, List.set_cons_zero, List.set_cons_succ]
                  refine wpAnyH_take (S := fun _ => True) (i := 9) (oi := { dst := some 69, op := Go.Op.move (Go.Operand.tmp 10), type := 3, pos := "l05_space.go:149", after := #[], guard := none }) (v := ?vz6) rfl (by kernel_rfl) (by kernel_rfl) (by kernel_rfl) (fun _ _ _ h => h) (Or.inl ⟨by rfl, ?hz6⟩) trivial ?rz6
                  case hz6 => (intro w hSw; (try dsimp only at hSw); go_simp; try with_reducible rfl)
                  try simp only [Act.put, List.setIfInBounds_toArray, List.set_cons_zero, List.set_cons_succ]
                  refine wpAnyH_take (S := fun _ => True) (i := 10) (oi := { dst := some 70, op := Go.Op.slice 31 (Go.Operand.tmp 68) (some (Go.Operand.tmp 69)) none none, type := 31, pos := "l05_space.go:149", after := #[{ on := 8, ground := Go.Ground.data }, { on := 9, ground := Go.Ground.data }], guard := none }) (v := ?vz7) rfl (by kernel_rfl) (by kernel_rfl) (by kernel_rfl) (fun _ _ _ h => h) (Or.inl ⟨by rfl, ?hz7⟩) trivial ?rz7
                  case hz7 => (intro w hSw; (try dsimp only at hSw); go_simp; try with_reducible rfl)
                  try simp only [Act.put, List.setIfInBounds_toArray, List.set_cons_zero, List.set_cons_succ]
                  refine wpAnyH_ready (rs := [0, 6]) (by kernel_rfl) (by simp) ?_
                  refine (AllReadyH.cons (o := { dst := some 60, op := Go.Op.buildSlice 31 0 #[], type := 31, pos := "l05_space.go:149", after := #[], guard := none }) rfl (fun K hK => ?_) (AllReadyH.cons (o := { dst := some 66, op := Go.Op.buildSlice 31 1 #[(0, Go.Operand.tmp 65)], type := 31, pos := "l05_space.go:149", after := #[{ on := 5, ground := Go.Ground.data }], guard := none }) rfl (fun K hK => ?_) AllReadyH.nil))
                  · go_simp
                    refine hK.out _ _ trivial (fun _ => ?_)
                    clear hK K
                    try simp only [Act.put, List.setIfInBounds_toArray, List.set_cons_zero, List.set_cons_succ]
                    refine wpAnyH_ready (rs := [4, 6]) (by kernel_rfl) (by simp) ?_
                    refine (AllReadyH.cons (o := { dst := some 64, op := Go.Op.call { callee := Go.Callee.builtin Go.Builtin.append, args := #[Go.Operand.tmp 60, Go.Operand.tmp 63], argTypes := #[31, 31] }, type := 31, pos := "l05_space.go:149", after := #[{ on := 0, ground := Go.Ground.data }, { on := 3, ground := Go.Ground.data }], guard := none }) rfl (fun K hK => ?_) (AllReadyH.cons (o := { dst := some 66, op := Go.Op.buildSlice 31 1 #[(0, Go.Operand.tmp 65)], type := 31, pos := "l05_space.go:149", after := #[{ on := 5, ground := Go.Ground.data }], guard := none }) rfl (fun K hK => ?_) AllReadyH.nil))
                    · refine app_ints _ _ rfl U.heap.size U.heap.size 0 0 [] rfl (World.ownsRow_lit (base := U.heap.size) (e := 2) (size := 1) U #[] 0 (Nat.le_refl _) (Nat.zero_le _) rfl) (some ⟨g, 0, none⟩) lo cap (ls.take lo) rfl _ (Classical.choose_spec (HIT.out _ (bel_alloc (Bel.refl _) _))) HTl.out lo (by omega) (by omega) (by first | (simp; done) | (simp; omega)) ?_
                      intro g1 cap1 w1 own1 grow1
                      have hBU1 : Bel U w1 := bel_grow (bel_alloc (Bel.refl U) _) grow1 (fun j e => by injection e with e; rw [← e]; exact Nat.le_refl _)
                      have own1k : OwnI U.heap.size (w1.alloc (.cells #[.int .i64 (i : Int)] 2)) (.slice (some ⟨g1, 0, none⟩) lo cap1) ([] ++ ls.take lo) := own_bel own1 (bel_alloc (Bel.refl _) _)
                      have hBU1k : Bel U (w1.alloc (.cells #[.int .i64 (i : Int)] 2)) := bel_alloc hBU1 _
                      have hk1 : Ints (w1.alloc (.cells #[.int .i64 (i : Int)] 2)) (some ⟨w1.heap.size, 0, none⟩) [(i : Int)] [w1.heap.size] := ints_lit1 (by simp [go_sem]) hin
                      refine hK.out _ _ trivial (fun _ => ?_)
                      clear hK K
                      try simp only [Act.put, List.setIfInBounds_toArray, List.set_cons_zero, List.set_cons_succ]
                      refine wpAnyH_ready (rs := [6]) (by kernel_rfl) (by simp) ?_
                      refine (AllReadyH.cons (o := { dst := some 66, op := Go.Op.buildSlice 31 1 #[(0, Go.Operand.tmp 65)], type := 31, pos := "l05_space.go:149", after := #[{ on := 5, ground := Go.Ground.data }], guard := none }) rfl (fun K hK => ?_) AllReadyH.nil)
                      go_simp
                      refine hK.out _ _ trivial (fun _ => ?_)
                      clear hK K
                      try simp only [Act.put, List.setIfInBounds_toArray, List.set_cons_zero, List.set_cons_succ]
                      refine wpAnyH_ready (rs := [7]) (by kernel_rfl) (by simp) ?_
                      refine (AllReadyH.cons (o := { dst := some 67, op := Go.Op.call { callee := Go.Callee.builtin Go.Builtin.append, args := #[Go.Operand.tmp 64, Go.Operand.tmp 66], argTypes := #[31, 31] }, type := 31, pos := "l05_space.go:149", after := #[{ on := 4, ground := Go.Ground.data }, { on := 6, ground := Go.Ground.data }, { on := 4, ground := Go.Ground.chain }], guard := none }) rfl (fun K hK => ?_) AllReadyH.nil)
                      refine app_ints _ _ rfl U.heap.size g1 lo cap1 ([] ++ ls.take lo) rfl own1k (some ⟨w1.heap.size, 0, none⟩) 1 1 [(i : Int)] rfl [w1.heap.size] hk1 rfl (lo + 1) rfl (by omega) hBU1k.out.size ?_
                      intro g2 cap2 w2 own2 grow2
                      have hBU2 : Bel U w2 := bel_grow hBU1k grow2 (fun j e => by injection e with e; rw [← e]; exact (own_at own1k).1)
                      refine hK.out _ _ trivial (fun _ => ?_)
                      clear hK K
                      try simp only [Act.put, List.setIfInBounds_toArray, List.set_cons_zero, List.set_cons_succ]
                      refine wpAnyH_ready (rs := [11]) (by kernel_rfl) (by simp) ?_
                      refine (AllReadyH.cons (o := { dst := some 71, op := Go.Op.call { callee := Go.Callee.builtin Go.Builtin.append, args := #[Go.Operand.tmp 67, Go.Operand.tmp 70], argTypes := #[31, 31] }, type := 31, pos := "l05_space.go:149", after := #[{ on := 7, ground := Go.Ground.data }, { on := 10, ground := Go.Ground.data }, { on := 7, ground := Go.Ground.chain }], guard := none }) rfl (fun K hK => ?_) AllReadyH.nil)
                      refine app_ints _ _ rfl U.heap.size g2 (lo + 1) cap2 (([] ++ ls.take lo) ++ [(i : Int)]) rfl own2 _ (ln - lo) _ (ls.drop lo) rfl _ (Classical.choose_spec (HIX.out w2 hBU2 _ (by intro h; first | rfl | (rw [if_neg (by omega)])))) HDl.out (ln + 1) (by omega) (by omega) hBU2.out.size ?_
                      intro g3 cap3 w3 own3 grow3
                      have HB3 : Hid (Bel W0 w3) := bel_step hBwU (bel_grow hBU2 grow3 (fun j e => by injection e with e; rw [← e]; exact (own_at own2).1))
                      have HO3 : Hid (OwnI (w.heap.size + 1) w3 (.slice (some ⟨g3, 0, none⟩) (ln + 1) cap3) (lsOX (rot (fun x => if x = i then i else o x) lo i (i + 1)) (ln + 1))) := by rw [← HE.out]; exact own_base own3 (by rw [HS1.out]; exact hBwU.out.size)
                      clear own2 grow2 hBU2 own1k hBU1k hk1
                      refine hK.out _ _ trivial (fun _ => ?_)
                      clear hK K
                      try simp only [Act.put, List.setIfInBounds_toArray, List.set_cons_zero, List.set_cons_succ]
                      refine wpAnyH_take (S := fun _ => True) (i := 12) (oi := { dst := some 7, op := Go.Op.assign (Go.Operand.tmp 71), type := 31, pos := "l05_space.go:149", after := #[{ on := 11, ground := Go.Ground.data }, { on := 11, ground := Go.Ground.chain }, { on := 0, ground := Go.Ground.phase }, { on := 1, ground := Go.Ground.phase }, { on := 2, ground := Go.Ground.phase }, { on := 3, ground := Go.Ground.phase }, { on := 4, ground := Go.Ground.phase }, { on := 5, ground := Go.Ground.phase }, { on := 6, ground := Go.Ground.phase }, { on := 7, ground := Go.Ground.phase }, { on := 8, ground := Go.Ground.phase }, { on := 9, ground := Go.Ground.phase }, { on := 10, ground := Go.Ground.phase }, { on := 11, ground := Go.Ground.phase }], guard := none }) (v := ?vz8) rfl (by kernel_rfl) (by kernel_rfl) (by kernel_rfl) (fun _ _ _ h => h) (Or.inl ⟨by rfl, ?hz8⟩) trivial ?rz8
                      case hz8 => (intro w hSw; (try dsimp only at hSw); go_simp; try with_reducible rfl)
                      try simp only [Act.put, List.setIfInBounds_toArray, List.set_cons_zero, List.set_cons_succ]
                      refine wpAnyH_done (by kernel_rfl) ?_ _
                      refine NoPanic.normal ?_
                      have HM : Hid (ln + 1 = min (i + 1) kk) := by show ln + 1 = min (i + 1) kk; have := HZ.out; omega
                      clear own3 grow3
                      go_wp2
                      go_roundw
                      case rel => exact ⟨i + 1, g3, cap3, ln + 1, _, by omega, by go_num, HM.out, rfl, HO3.out, HN.out, HB3.out⟩
                      case measure => simp [intOf]; omega
                    · go_simp
                      refine hK.out _ _ trivial (fun _ => ?_)
                      clear hK K
                      try simp only [Act.put, List.setIfInBounds_toArray, List.set_cons_zero, List.set_cons_succ]
                      refine wpAnyH_ready (rs := [4]) (by kernel_rfl) (by simp) ?_
                      refine (AllReadyH.cons (o := { dst := some 64, op := Go.Op.call { callee := Go.Callee.builtin Go.Builtin.append, args := #[Go.Operand.tmp 60, Go.Operand.tmp 63], argTypes := #[31, 31] }, type := 31, pos := "l05_space.go:149", after := #[{ on := 0, ground := Go.Ground.data }, { on := 3, ground := Go.Ground.data }], guard := none }) rfl (fun K hK => ?_) AllReadyH.nil)
                      refine app_ints _ _ rfl U.heap.size U.heap.size 0 0 [] rfl (own_bel (World.ownsRow_lit (base := U.heap.size) (e := 2) (size := 1) U #[] 0 (Nat.le_refl _) (Nat.zero_le _) rfl) (bel_alloc (Bel.refl _) _)) (some ⟨g, 0, none⟩) lo cap (ls.take lo) rfl _ (Classical.choose_spec (HIT.out _ (bel_alloc (bel_alloc (Bel.refl _) _) _))) HTl.out lo (by omega) (by omega) (by first | (simp; done) | (simp; omega)) ?_
                      intro g1 cap1 w1 own1k grow1
                      have hBU1k : Bel U w1 := bel_grow (bel_alloc (bel_alloc (Bel.refl U) _) _) grow1 (fun j e => by injection e with e; rw [← e]; exact Nat.le_refl _)
                      have hk1 : Ints w1 (some ⟨U.heap.size + 1, 0, none⟩) [(i : Int)] [U.heap.size + 1] := ints_lit1 (grow1.cell (a := ⟨U.heap.size + 1, 0, none⟩) (by simp [go_sem]) (by simp)) hin
                      refine hK.out _ _ trivial (fun _ => ?_)
                      clear hK K
                      try simp only [Act.put, List.setIfInBounds_toArray, List.set_cons_zero, List.set_cons_succ]
                      refine wpAnyH_ready (rs := [7]) (by kernel_rfl) (by simp) ?_
                      refine (AllReadyH.cons (o := { dst := some 67, op := Go.Op.call { callee := Go.Callee.builtin Go.Builtin.append, args := #[Go.Operand.tmp 64, Go.Operand.tmp 66], argTypes := #[31, 31] }, type := 31, pos := "l05_space.go:149", after := #[{ on := 4, ground := Go.Ground.data }, { on := 6, ground := Go.Ground.data }, { on := 4, ground := Go.Ground.chain }], guard := none }) rfl (fun K hK => ?_) AllReadyH.nil)
                      refine app_ints _ _ rfl U.heap.size g1 lo cap1 ([] ++ ls.take lo) rfl own1k (some ⟨U.heap.size + 1, 0, none⟩) 1 1 [(i : Int)] rfl [U.heap.size + 1] hk1 rfl (lo + 1) rfl (by omega) hBU1k.out.size ?_
                      intro g2 cap2 w2 own2 grow2
                      have hBU2 : Bel U w2 := bel_grow hBU1k grow2 (fun j e => by injection e with e; rw [← e]; exact (own_at own1k).1)
                      refine hK.out _ _ trivial (fun _ => ?_)
                      clear hK K
                      try simp only [Act.put, List.setIfInBounds_toArray, List.set_cons_zero, List.set_cons_succ]
                      refine wpAnyH_ready (rs := [11]) (by kernel_rfl) (by simp) ?_
                      refine (AllReadyH.cons (o := { dst := some 71, op := Go.Op.call { callee := Go.Callee.builtin Go.Builtin.append, args := #[Go.Operand.tmp 67, Go.Operand.tmp 70], argTypes := #[31, 31] }, type := 31, pos := "l05_space.go:149", after := #[{ on := 7, ground := Go.Ground.data }, { on := 10, ground := Go.Ground.data }, { on := 7, ground := Go.Ground.chain }], guard := none }) rfl (fun K hK => ?_) AllReadyH.nil)
                      refine app_ints _ _ rfl U.heap.size g2 (lo + 1) cap2 (([] ++ ls.take lo) ++ [(i : Int)]) rfl own2 _ (ln - lo) _ (ls.drop lo) rfl _ (Classical.choose_spec (HIX.out w2 hBU2 _ (by intro h; first | rfl | (rw [if_neg (by omega)])))) HDl.out (ln + 1) (by omega) (by omega) hBU2.out.size ?_
                      intro g3 cap3 w3 own3 grow3
                      have HB3 : Hid (Bel W0 w3) := bel_step hBwU (bel_grow hBU2 grow3 (fun j e => by injection e with e; rw [← e]; exact (own_at own2).1))
                      have HO3 : Hid (OwnI (w.heap.size + 1) w3 (.slice (some ⟨g3, 0, none⟩) (ln + 1) cap3) (lsOX (rot (fun x => if x = i then i else o x) lo i (i + 1)) (ln + 1))) := by rw [← HE.out]; exact own_base own3 (by rw [HS1.out]; exact hBwU.out.size)
                      clear own2 grow2 hBU2 own1k hBU1k hk1
                      refine hK.out _ _ trivial (fun _ => ?_)
                      clear hK K
                      try simp only [Act.put, List.setIfInBounds_toArray, List.set_cons_zero, List.set_cons_succ]
                      refine wpAnyH_take (S := fun _ => True) (i := 12) (oi := { dst := some 7, op := Go.Op.assign (Go.Operand.tmp 71), type := 31, pos := "l05_space.go:149", after := #[{ on := 11, ground := Go.Ground.data }, { on := 11, ground := Go.Ground.chain }, { on := 0, ground := Go.Ground.phase }, { on := 1, ground := Go.Ground.phase }, { on := 2, ground := Go.Ground.phase }, { on := 3, ground := Go.Ground.phase }, { on := 4, ground := Go.Ground.phase }, { on := 5, ground := Go.Ground.phase }, { on := 6, ground := Go.Ground.phase }, { on := 7, ground := Go.Ground.phase }, { on := 8, ground := Go.Ground.phase }, { on := 9, ground := Go.Ground.phase }, { on := 10, ground := Go.Ground.phase }, { on := 11, ground := Go.Ground.phase }], guard := none }) (v := ?vz9) rfl (by kernel_rfl) (by kernel_rfl) (by kernel_rfl) (fun _ _ _ h => h) (Or.inl ⟨by rfl, ?hz9⟩) trivial ?rz9
                      case hz9 => (intro w hSw; (try dsimp only at hSw); go_simp; try with_reducible rfl)
                      try simp only [Act.put, List.setIfInBounds_toArray, List.set_cons_zero, List.set_cons_succ]
                      refine wpAnyH_done (by kernel_rfl) ?_ _
                      refine NoPanic.normal ?_
                      have HM : Hid (ln + 1 = min (i + 1) kk) := by show ln + 1 = min (i + 1) kk; have := HZ.out; omega
                      clear own3 grow3
                      go_wp2
                      go_roundw
                      case rel => exact ⟨i + 1, g3, cap3, ln + 1, _, by omega, by go_num, HM.out, rfl, HO3.out, HN.out, HB3.out⟩
                      case measure => simp [intOf]; omega
                  · go_simp
                    refine hK.out _ _ trivial (fun _ => ?_)
                    clear hK K
                    try simp only [Act.put, List.setIfInBounds_toArray, List.set_cons_zero, List.set_cons_succ]
                    refine wpAnyH_ready (rs := [0]) (by kernel_rfl) (by simp) ?_
                    refine (AllReadyH.cons (o := { dst := some 60, op := Go.Op.buildSlice 31 0 #[], type := 31, pos := "l05_space.go:149", after := #[], guard := none }) rfl (fun K hK => ?_) AllReadyH.nil)
                    go_simp
                    refine hK.out _ _ trivial (fun _ => ?_)
                    clear hK K
                    try simp only [Act.put, List.setIfInBounds_toArray, List.set_cons_zero, List.set_cons_succ]
                    refine wpAnyH_ready (rs := [4]) (by kernel_rfl) (by simp) ?_
                    refine (AllReadyH.cons (o := { dst := some 64, op := Go.Op.call { callee := Go.Callee.builtin Go.Builtin.append, args := #[Go.Operand.tmp 60, Go.Operand.tmp 63], argTypes := #[31, 31] }, type := 31, pos := "l05_space.go:149", after := #[{ on := 0, ground := Go.Ground.data }, { on := 3, ground := Go.Ground.data }], guard := none }) rfl (fun K hK => ?_) AllReadyH.nil)
                    refine app_ints _ _ rfl U.heap.size (U.heap.size + 1) 0 0 [] rfl (by have h := World.ownsRow_lit (base := U.heap.size) (e := 2) (size := 1) (U.alloc (.cells #[.int .i64 (i : Int)] 2)) #[] 0 (by simp) (Nat.zero_le _) rfl; rw [show (U.alloc (.cells #[.int .i64 (i : Int)] 2)).heap.size = U.heap.size + 1 by simp] at h; exact h) (some ⟨g, 0, none⟩) lo cap (ls.take lo) rfl _ (Classical.choose_spec (HIT.out _ (bel_alloc (bel_alloc (Bel.refl _) _) _))) HTl.out lo (by omega) (by omega) (by first | (simp; done) | (simp; omega)) ?_
                    intro g1 cap1 w1 own1k grow1
                    have hBU1k : Bel U w1 := bel_grow (bel_alloc (bel_alloc (Bel.refl U) _) _) grow1 (fun j e => by injection e with e; rw [← e]; exact Nat.le_succ _)
                    have hk1 : Ints w1 (some ⟨U.heap.size, 0, none⟩) [(i : Int)] [U.heap.size] := ints_lit1 (grow1.cell (a := ⟨U.heap.size, 0, none⟩) (by simp [go_sem]) (by simp)) hin
                    refine hK.out _ _ trivial (fun _ => ?_)
                    clear hK K
                    try simp only [Act.put, List.setIfInBounds_toArray, List.set_cons_zero, List.set_cons_succ]
                    refine wpAnyH_ready (rs := [7]) (by kernel_rfl) (by simp) ?_
                    refine (AllReadyH.cons (o := { dst := some 67, op := Go.Op.call { callee := Go.Callee.builtin Go.Builtin.append, args := #[Go.Operand.tmp 64, Go.Operand.tmp 66], argTypes := #[31, 31] }, type := 31, pos := "l05_space.go:149", after := #[{ on := 4, ground := Go.Ground.data }, { on := 6, ground := Go.Ground.data }, { on := 4, ground := Go.Ground.chain }], guard := none }) rfl (fun K hK => ?_) AllReadyH.nil)
                    refine app_ints _ _ rfl U.heap.size g1 lo cap1 ([] ++ ls.take lo) rfl own1k (some ⟨U.heap.size, 0, none⟩) 1 1 [(i : Int)] rfl [U.heap.size] hk1 rfl (lo + 1) rfl (by omega) hBU1k.out.size ?_
                    intro g2 cap2 w2 own2 grow2
                    have hBU2 : Bel U w2 := bel_grow hBU1k grow2 (fun j e => by injection e with e; rw [← e]; exact (own_at own1k).1)
                    refine hK.out _ _ trivial (fun _ => ?_)
                    clear hK K
                    try simp only [Act.put, List.setIfInBounds_toArray, List.set_cons_zero, List.set_cons_succ]
                    refine wpAnyH_ready (rs := [11]) (by kernel_rfl) (by simp) ?_
                    refine (AllReadyH.cons (o := { dst := some 71, op := Go.Op.call { callee := Go.Callee.builtin Go.Builtin.append, args := #[Go.Operand.tmp 67, Go.Operand.tmp 70], argTypes := #[31, 31] }, type := 31, pos := "l05_space.go:149", after := #[{ on := 7, ground := Go.Ground.data }, { on := 10, ground := Go.Ground.data }, { on := 7, ground := Go.Ground.chain }], guard := none }) rfl (fun K hK => ?_) AllReadyH.nil)
                    refine app_ints _ _ rfl U.heap.size g2 (lo + 1) cap2 (([] ++ ls.take lo) ++ [(i : Int)]) rfl own2 _ (ln - lo) _ (ls.drop lo) rfl _ (Classical.choose_spec (HIX.out w2 hBU2 _ (by intro h; first | rfl | (rw [if_neg (by omega)])))) HDl.out (ln + 1) (by omega) (by omega) hBU2.out.size ?_
                    intro g3 cap3 w3 own3 grow3
                    have HB3 : Hid (Bel W0 w3) := bel_step hBwU (bel_grow hBU2 grow3 (fun j e => by injection e with e; rw [← e]; exact (own_at own2).1))
                    have HO3 : Hid (OwnI (w.heap.size + 1) w3 (.slice (some ⟨g3, 0, none⟩) (ln + 1) cap3) (lsOX (rot (fun x => if x = i then i else o x) lo i (i + 1)) (ln + 1))) := by rw [← HE.out]; exact own_base own3 (by rw [HS1.out]; exact hBwU.out.size)
                    clear own2 grow2 hBU2 own1k hBU1k hk1
                    refine hK.out _ _ trivial (fun _ => ?_)
                    clear hK K
                    try simp only [Act.put, List.setIfInBounds_toArray, List.set_cons_zero, List.set_cons_succ]
                    refine wpAnyH_take (S := fun _ => True) (i := 12) (oi := { dst := some 7, op := Go.Op.assign (Go.Operand.tmp 71), type := 31, pos := "l05_space.go:149", after := #[{ on := 11, ground := Go.Ground.data }, { on := 11, ground := Go.Ground.chain }, { on := 0, ground := Go.Ground.phase }, { on := 1, ground := Go.Ground.phase }, { on := 2, ground := Go.Ground.phase }, { on := 3, ground := Go.Ground.phase }, { on := 4, ground := Go.Ground.phase }, { on := 5, ground := Go.Ground.phase }, { on := 6, ground := Go.Ground.phase }, { on := 7, ground := Go.Ground.phase }, { on := 8, ground := Go.Ground.phase }, { on := 9, ground := Go.Ground.phase }, { on := 10, ground := Go.Ground.phase }, { on := 11, ground := Go.Ground.phase }], guard := none }) (v := ?vz10) rfl (by kernel_rfl) (by kernel_rfl) (by kernel_rfl) (fun _ _ _ h => h) (Or.inl ⟨by rfl, ?hz10⟩) trivial ?rz10
                    case hz10 => (intro w hSw; (try dsimp only at hSw); go_simp; try with_reducible rfl)
                    try simp only [Act.put, List.setIfInBounds_toArray, List.set_cons_zero, List.set_cons_succ]
                    refine wpAnyH_done (by kernel_rfl) ?_ _
                    refine NoPanic.normal ?_
                    have HM : Hid (ln + 1 = min (i + 1) kk) := by show ln + 1 = min (i + 1) kk; have := HZ.out; omega
                    clear own3 grow3
                    go_wp2
                    go_roundw
                    case rel => exact ⟨i + 1, g3, cap3, ln + 1, _, by omega, by go_num, HM.out, rfl, HO3.out, HN.out, HB3.out⟩
                    case measure => simp [intOf]; omega
                · have HZ : Hid (ln = kk) := by show ln = kk; rw [HLn.out]; omega
                  have hgtk2 : (kk : Int) < (ln : Int) + 1 := by have := HZ.out; omega
                  have hk0 : (0 : Int) ≤ (kk : Int) := by omega
                  go_wp2
                  obtain ⟨U, hU⟩ : ∃ V : World, V = wc.drew := ⟨_, rfl⟩
                  have hBwU : Bel W0 U := by rw [hU]; exact bel_step hBw hBU
                  have HIT : Hid (∀ V, Bel U V → ∃ bs, Ints V (some ⟨g, 0, none⟩) (ls.take lo) bs) := fun V h => by obtain ⟨bs, I0⟩ := HI.out; exact ints_take (I0.bel intE (bel_step (by rw [hU]; exact hBU) h)) lo
                  have HIX : Hid (∀ V, Bel U V → ∀ ad : Option Addr, (lo < ln → ad = some ⟨g, lo, none⟩) → ∃ bs, Ints V ad (ls.drop lo) bs) := fun V h ad had => by
                    by_cases hc : lo < ln
                    · obtain ⟨bs, I0⟩ := HI.out
                      have := ints_drop (I0.bel intE (bel_step (show Bel w0 U by rw [hU]; exact hBU) h)) lo
                      rw [Nat.zero_add] at this; rw [had hc]; exact this
                    · have e : ls.drop lo = [] := List.drop_eq_nil_of_le (by rw [HLen.out]; omega)
                      rw [e]; exact ⟨[], Sl.nil⟩
                  have HTl : Hid ((ls.take lo).length = lo) := by show (ls.take lo).length = lo; rw [List.length_take, HLen.out]; omega
                  have HDl : Hid ((ls.drop lo).length = ln - lo) := by show (ls.drop lo).length = ln - lo; rw [List.length_drop, HLen.out]
                  have hin : In64 (i : Int) := ⟨by omega, by omega⟩
                  refine wp_region_noPanic ?_
                  refine wp_region_held_drew (S := fun _ => True) (by kernel_rfl) trivial (fun hHeld => ?_)
                  rw [← hU]
                  clear hU hBU
                  refine wpAnyH_take (S := fun _ => True) (i := 1) (oi := { dst := some 61, op := Go.Op.move (Go.Operand.tmp 7), type := 31, pos := "l05_space.go:149", after := #[], guard := none }) (v := ?vy1) rfl (by kernel_rfl) (by kernel_rfl) (by kernel_rfl) (fun _ _ _ h => h) (Or.inl ⟨by rfl, ?hy1⟩) trivial ?ry1
                  case hy1 => (intro w hSw; (try dsimp only at hSw); go_simp; try with_reducible rfl)
                  try simp only [Act.put, List.setIfInBounds_toArray, List.set_cons_zero, List.set_cons_succ]
                  refine wpAnyH_take (S := fun _ => True) (i := 2) (oi := { dst := some 62, op := Go.Op.move (Go.Operand.tmp 10), type := 3, pos := "l05_space.go:149", after := #[], guard := none }) (v := ?vy2) rfl (by kernel_rfl) (by kernel_rfl) (by kernel_rfl) (fun _ _ _ h => h) (Or.inl ⟨by rfl, ?hy2⟩) trivial ?ry2
                  case hy2 => (intro w hSw; (try dsimp only at hSw); go_simp; try with_reducible rfl)
                  try simp only [Act.put, List.setIfInBounds_toArray, List.set_cons_zero, List.set_cons_succ]
                  refine wpAnyH_take (S := fun _ => True) (i := 3) (oi := { dst := some 63, op := Go.Op.slice 31 (Go.Operand.tmp 61) none (some (Go.Operand.tmp 62)) none, type := 31, pos := "l05_space.go:149", after := #[{ on := 1, ground := Go.Ground.data }, { on := 2, ground := Go.Ground.data }], guard := none }) (v := ?vy3) rfl (by kernel_rfl) (by kernel_rfl) (by kernel_rfl) (fun _ _ _ h => h) (Or.inl ⟨by rfl, ?hy3⟩) trivial ?ry3
                  case hy3 => (intro w hSw; (try dsimp only at hSw); go_simp; try with_reducible rfl)
                  try simp only [Act.put, List.setIfInBounds_toArray, List.set_cons_zero, List.set_cons_succ]
                  refine wpAnyH_take (S := fun _ => True) (i := 5) (oi := { dst := some 65, op := Go.Op.move (Go.Operand.tmp 8), type := 3, pos := "l05_space.go:149", after := #[], guard := none }) (v := ?vy4) rfl (by kernel_rfl) (by kernel_rfl) (by kernel_rfl) (fun _ _ _ h => h) (Or.inl ⟨by rfl, ?hy4⟩) trivial ?ry4
                  case hy4 => (intro w hSw; (try dsimp only at hSw); go_simp; try with_reducible rfl)
                  try simp only [Act.put, List.setIfInBounds_toArray, List.set_cons_zero, List.set_cons_succ]
                  refine wpAnyH_take (S := fun _ => True) (i := 8) (oi := { dst := some 68, op := Go.Op.move (Go.Operand.tmp 7), type := 31, pos := "l05_space.go:149", after := #[], guard := none }) (v := ?vy5) rfl (by kernel_rfl) (by kernel_rfl) (by kernel_rfl) (fun _ _ _ h => h) (Or.inl ⟨by rfl, ?hy5⟩) trivial ?ry5
                  case hy5 => (intro w hSw; (try dsimp only at hSw); go_simp; try with_reducible rfl)
                  try simp only [Act.put, List.setIfInBounds_toArray, List.set_cons_zero, List.set_cons_succ]
                  refine wpAnyH_take (S := fun _ => True) (i := 9) (oi := { dst := some 69, op := Go.Op.move (Go.Operand.tmp 10), type := 3, pos := "l05_space.go:149", after := #[], guard := none }) (v := ?vy6) rfl (by kernel_rfl) (by kernel_rfl) (by kernel_rfl) (fun _ _ _ h => h) (Or.inl ⟨by rfl, ?hy6⟩) trivial ?ry6
                  case hy6 => (intro w hSw; (try dsimp only at hSw); go_simp; try with_reducible rfl)
                  try simp only [Act.put, List.setIfInBounds_toArray, List.set_cons_zero, List.set_cons_succ]
                  refine wpAnyH_take (S := fun _ => True) (i := 10) (oi := { dst := some 70, op := Go.Op.slice 31 (Go.Operand.tmp 68) (some (Go.Operand.tmp 69)) none none, type := 31, pos := "l05_space.go:149", after := #[{ on := 8, ground := Go.Ground.data }, { on := 9, ground := Go.Ground.data }], guard := none }) (v := ?vy7) rfl (by kernel_rfl) (by kernel_rfl) (by kernel_rfl) (fun _ _ _ h => h) (Or.inl ⟨by rfl, ?hy7⟩) trivial ?ry7
                  case hy7 => (intro w hSw; (try dsimp only at hSw); go_simp; try with_reducible rfl)
                  try simp only [Act.put, List.setIfInBounds_toArray, List.set_cons_zero, List.set_cons_succ]
                  refine wpAnyH_ready (rs := [0, 6]) (by kernel_rfl) (by simp) ?_
                  refine (AllReadyH.cons (o := { dst := some 60, op := Go.Op.buildSlice 31 0 #[], type := 31, pos := "l05_space.go:149", after := #[], guard := none }) rfl (fun K hK => ?_) (AllReadyH.cons (o := { dst := some 66, op := Go.Op.buildSlice 31 1 #[(0, Go.Operand.tmp 65)], type := 31, pos := "l05_space.go:149", after := #[{ on := 5, ground := Go.Ground.data }], guard := none }) rfl (fun K hK => ?_) AllReadyH.nil))
                  · go_simp
                    refine hK.out _ _ trivial (fun _ => ?_)
                    clear hK K
                    try simp only [Act.put, List.setIfInBounds_toArray, List.set_cons_zero, List.set_cons_succ]
                    refine wpAnyH_ready (rs := [4, 6]) (by kernel_rfl) (by simp) ?_
                    refine (AllReadyH.cons (o := { dst := some 64, op := Go.Op.call { callee := Go.Callee.builtin Go.Builtin.append, args := #[Go.Operand.tmp 60, Go.Operand.tmp 63], argTypes := #[31, 31] }, type := 31, pos := "l05_space.go:149", after := #[{ on := 0, ground := Go.Ground.data }, { on := 3, ground := Go.Ground.data }], guard := none }) rfl (fun K hK => ?_) (AllReadyH.cons (o := { dst := some 66, op := Go.Op.buildSlice 31 1 #[(0, Go.Operand.tmp 65)], type := 31, pos := "l05_space.go:149", after := #[{ on := 5, ground := Go.Ground.data }], guard := none }) rfl (fun K hK => ?_) AllReadyH.nil))
                    · refine app_ints _ _ rfl U.heap.size U.heap.size 0 0 [] rfl (World.ownsRow_lit (base := U.heap.size) (e := 2) (size := 1) U #[] 0 (Nat.le_refl _) (Nat.zero_le _) rfl) (some ⟨g, 0, none⟩) lo cap (ls.take lo) rfl _ (Classical.choose_spec (HIT.out _ (bel_alloc (Bel.refl _) _))) HTl.out lo (by omega) (by omega) (by first | (simp; done) | (simp; omega)) ?_
                      intro g1 cap1 w1 own1 grow1
                      have hBU1 : Bel U w1 := bel_grow (bel_alloc (Bel.refl U) _) grow1 (fun j e => by injection e with e; rw [← e]; exact Nat.le_refl _)
                      have own1k : OwnI U.heap.size (w1.alloc (.cells #[.int .i64 (i : Int)] 2)) (.slice (some ⟨g1, 0, none⟩) lo cap1) ([] ++ ls.take lo) := own_bel own1 (bel_alloc (Bel.refl _) _)
                      have hBU1k : Bel U (w1.alloc (.cells #[.int .i64 (i : Int)] 2)) := bel_alloc hBU1 _
                      have hk1 : Ints (w1.alloc (.cells #[.int .i64 (i : Int)] 2)) (some ⟨w1.heap.size, 0, none⟩) [(i : Int)] [w1.heap.size] := ints_lit1 (by simp [go_sem]) hin
                      refine hK.out _ _ trivial (fun _ => ?_)
                      clear hK K
                      try simp only [Act.put, List.setIfInBounds_toArray, List.set_cons_zero, List.set_cons_succ]
                      refine wpAnyH_ready (rs := [6]) (by kernel_rfl) (by simp) ?_
                      refine (AllReadyH.cons (o := { dst := some 66, op := Go.Op.buildSlice 31 1 #[(0, Go.Operand.tmp 65)], type := 31, pos := "l05_space.go:149", after := #[{ on := 5, ground := Go.Ground.data }], guard := none }) rfl (fun K hK => ?_) AllReadyH.nil)
                      go_simp
                      refine hK.out _ _ trivial (fun _ => ?_)
                      clear hK K
                      try simp only [Act.put, List.setIfInBounds_toArray, List.set_cons_zero, List.set_cons_succ]
                      refine wpAnyH_ready (rs := [7]) (by kernel_rfl) (by simp) ?_
                      refine (AllReadyH.cons (o := { dst := some 67, op := Go.Op.call { callee := Go.Callee.builtin Go.Builtin.append, args := #[Go.Operand.tmp 64, Go.Operand.tmp 66], argTypes := #[31, 31] }, type := 31, pos := "l05_space.go:149", after := #[{ on := 4, ground := Go.Ground.data }, { on := 6, ground := Go.Ground.data }, { on := 4, ground := Go.Ground.chain }], guard := none }) rfl (fun K hK => ?_) AllReadyH.nil)
                      refine app_ints _ _ rfl U.heap.size g1 lo cap1 ([] ++ ls.take lo) rfl own1k (some ⟨w1.heap.size, 0, none⟩) 1 1 [(i : Int)] rfl [w1.heap.size] hk1 rfl (lo + 1) rfl (by omega) hBU1k.out.size ?_
                      intro g2 cap2 w2 own2 grow2
                      have hBU2 : Bel U w2 := bel_grow hBU1k grow2 (fun j e => by injection e with e; rw [← e]; exact (own_at own1k).1)
                      refine hK.out _ _ trivial (fun _ => ?_)
                      clear hK K
                      try simp only [Act.put, List.setIfInBounds_toArray, List.set_cons_zero, List.set_cons_succ]
                      refine wpAnyH_ready (rs := [11]) (by kernel_rfl) (by simp) ?_
                      refine (AllReadyH.cons (o := { dst := some 71, op := Go.Op.call { callee := Go.Callee.builtin Go.Builtin.append, args := #[Go.Operand.tmp 67, Go.Operand.tmp 70], argTypes := #[31, 31] }, type := 31, pos := "l05_space.go:149", after := #[{ on := 7, ground := Go.Ground.data }, { on := 10, ground := Go.Ground.data }, { on := 7, ground := Go.Ground.chain }], guard := none }) rfl (fun K hK => ?_) AllReadyH.nil)
                      refine app_ints _ _ rfl U.heap.size g2 (lo + 1) cap2 (([] ++ ls.take lo) ++ [(i : Int)]) rfl own2 _ (ln - lo) _ (ls.drop lo) rfl _ (Classical.choose_spec (HIX.out w2 hBU2 _ (by intro h; first | rfl | (rw [if_neg (by omega)])))) HDl.out (ln + 1) (by omega) (by omega) hBU2.out.size ?_
                      intro g3 cap3 w3 own3 grow3
                      have HB3 : Hid (Bel W0 w3) := bel_step hBwU (bel_grow hBU2 grow3 (fun j e => by injection e with e; rw [← e]; exact (own_at own2).1))
                      have HO3 : Hid (OwnI (w.heap.size + 1) w3 (.slice (some ⟨g3, 0, none⟩) (ln + 1) cap3) (lsOX (rot (fun x => if x = i then i else o x) lo i (i + 1)) (ln + 1))) := by rw [← HE.out]; exact own_base own3 (by rw [HS1.out]; exact hBwU.out.size)
                      clear own2 grow2 hBU2 own1k hBU1k hk1
                      refine hK.out _ _ trivial (fun _ => ?_)
                      clear hK K
                      try simp only [Act.put, List.setIfInBounds_toArray, List.set_cons_zero, List.set_cons_succ]
                      refine wpAnyH_take (S := fun _ => True) (i := 12) (oi := { dst := some 7, op := Go.Op.assign (Go.Operand.tmp 71), type := 31, pos := "l05_space.go:149", after := #[{ on := 11, ground := Go.Ground.data }, { on := 11, ground := Go.Ground.chain }, { on := 0, ground := Go.Ground.phase }, { on := 1, ground := Go.Ground.phase }, { on := 2, ground := Go.Ground.phase }, { on := 3, ground := Go.Ground.phase }, { on := 4, ground := Go.Ground.phase }, { on := 5, ground := Go.Ground.phase }, { on := 6, ground := Go.Ground.phase }, { on := 7, ground := Go.Ground.phase }, { on := 8, ground := Go.Ground.phase }, { on := 9, ground := Go.Ground.phase }, { on := 10, ground := Go.Ground.phase }, { on := 11, ground := Go.Ground.phase }], guard := none }) (v := ?vy8) rfl (by kernel_rfl) (by kernel_rfl) (by kernel_rfl) (fun _ _ _ h => h) (Or.inl ⟨by rfl, ?hy8⟩) trivial ?ry8
                      case hy8 => (intro w hSw; (try dsimp only at hSw); go_simp; try with_reducible rfl)
                      try simp only [Act.put, List.setIfInBounds_toArray, List.set_cons_zero, List.set_cons_succ]
                      refine wpAnyH_done (by kernel_rfl) ?_ _
                      refine NoPanic.normal ?_
                      have HM : Hid (kk = min (i + 1) kk) := by show kk = min (i + 1) kk; omega
                      have hc3 : ln + 1 ≤ cap3 := HO3.out.2.elim (fun h => by cases h.1) (fun ⟨_, _, _, e, _, _, h, _⟩ => by injection e with _ e2 e; omega)
                      have hc3' : (kk : Int) ≤ (cap3 : Int) := by have := HZ.out; omega
                      have HO4 : Hid (OwnI (w.heap.size + 1) w3 (.slice (some ⟨g3, 0, none⟩) kk cap3) (lsOX (rot (fun x => if x = i then i else o x) lo i (i + 1)) kk)) := by
                        have := own_take HO3.out (k := kk) (by have := HZ.out; omega)
                        rwa [lsO_take _ (by have := HZ.out; omega)] at this
                      clear own3 grow3
                      go_wp2
                      go_roundw
                      case rel => exact ⟨i + 1, g3, cap3, kk, _, by omega, by go_num, HM.out, rfl, HO4.out, HN.out, HB3.out⟩
                      case measure => simp [intOf]; omega
                    · go_simp
                      refine hK.out _ _ trivial (fun _ => ?_)
                      clear hK K
                      try simp only [Act.put, List.setIfInBounds_toArray, List.set_cons_zero, List.set_cons_succ]
                      refine wpAnyH_ready (rs := [4]) (by kernel_rfl) (by simp) ?_
                      refine (AllReadyH.cons (o := { dst := some 64, op := Go.Op.call { callee := Go.Callee.builtin Go.Builtin.append, args := #[Go.Operand.tmp 60, Go.Operand.tmp 63], argTypes := #[31, 31] }, type := 31, pos := "l05_space.go:149", after := #[{ on := 0, ground := Go.Ground.data }, { on := 3, ground := Go.Ground.data }], guard := none }) rfl (fun K hK => ?_) AllReadyH.nil)
                      refine app_ints _ _ rfl U.heap.size U.heap.size 0 0 [] rfl (own_bel (World.ownsRow_lit (base := U.heap.size) (e := 2) (size := 1) U #[] 0 (Nat.le_refl _) (Nat.zero_le _) rfl) (bel_alloc (Bel.refl _) _)) (some ⟨g, 0, none⟩) lo cap (ls.take lo) rfl _ (Classical.choose_spec (HIT.out _ (bel_alloc (bel_alloc (Bel.refl _) _) _))) HTl.out lo (by omega) (by omega) (by first | (simp; done) | (simp; omega)) ?_
                      intro g1 cap1 w1 own1k grow1
                      have hBU1k : Bel U w1 := bel_grow (bel_alloc (bel_alloc (Bel.refl U) _) _) grow1 (fun j e => by injection e with e; rw [← e]; exact Nat.le_refl _)
                      have hk1 : Ints w1 (some ⟨U.heap.size + 1, 0, none⟩) [(i : Int)] [U.heap.size + 1] := ints_lit1 (grow1.cell (a := ⟨U.heap.size + 1, 0, none⟩) (by simp [go_sem]) (by simp)) hin
                      refine hK.out _ _ trivial (fun _ => ?_)
                      clear hK K
                      try simp only [Act.put, List.setIfInBounds_toArray, List.set_cons_zero, List.set_cons_succ]
                      refine wpAnyH_ready (rs := [7]) (by kernel_rfl) (by simp) ?_
                      refine (AllReadyH.cons (o := { dst := some 67, op := Go.Op.call { callee := Go.Callee.builtin Go.Builtin.append, args := #[Go.Operand.tmp 64, Go.Operand.tmp 66], argTypes := #[31, 31] }, type := 31, pos := "l05_space.go:149", after := #[{ on := 4, ground := Go.Ground.data }, { on := 6, ground := Go.Ground.data }, { on := 4, ground := Go.Ground.chain }], guard := none }) rfl (fun K hK => ?_) AllReadyH.nil)
                      refine app_ints _ _ rfl U.heap.size g1 lo cap1 ([] ++ ls.take lo) rfl own1k (some ⟨U.heap.size + 1, 0, none⟩) 1 1 [(i : Int)] rfl [U.heap.size + 1] hk1 rfl (lo + 1) rfl (by omega) hBU1k.out.size ?_
                      intro g2 cap2 w2 own2 grow2
                      have hBU2 : Bel U w2 := bel_grow hBU1k grow2 (fun j e => by injection e with e; rw [← e]; exact (own_at own1k).1)
                      refine hK.out _ _ trivial (fun _ => ?_)
                      clear hK K
                      try simp only [Act.put, List.setIfInBounds_toArray, List.set_cons_zero, List.set_cons_succ]
                      refine wpAnyH_ready (rs := [11]) (by kernel_rfl) (by simp) ?_
                      refine (AllReadyH.cons (o := { dst := some 71, op := Go.Op.call { callee := Go.Callee.builtin Go.Builtin.append, args := #[Go.Operand.tmp 67, Go.Operand.tmp 70], argTypes := #[31, 31] }, type := 31, pos := "l05_space.go:149", after := #[{ on := 7, ground := Go.Ground.data }, { on := 10, ground := Go.Ground.data }, { on := 7, ground := Go.Ground.chain }], guard := none }) rfl (fun K hK => ?_) AllReadyH.nil)
                      refine app_ints _ _ rfl U.heap.size g2 (lo + 1) cap2 (([] ++ ls.take lo) ++ [(i : Int)]) rfl own2 _ (ln - lo) _ (ls.drop lo) rfl _ (Classical.choose_spec (HIX.out w2 hBU2 _ (by intro h; first | rfl | (rw [if_neg (by omega)])))) HDl.out (ln + 1) (by omega) (by omega) hBU2.out.size ?_
                      intro g3 cap3 w3 own3 grow3
                      have HB3 : Hid (Bel W0 w3) := bel_step hBwU (bel_grow hBU2 grow3 (fun j e => by injection e with e; rw [← e]; exact (own_at own2).1))
                      have HO3 : Hid (OwnI (w.heap.size + 1) w3 (.slice (some ⟨g3, 0, none⟩) (ln + 1) cap3) (lsOX (rot (fun x => if x = i then i else o x) lo i (i + 1)) (ln + 1))) := by rw [← HE.out]; exact own_base own3 (by rw [HS1.out]; exact hBwU.out.size)
                      clear own2 grow2 hBU2 own1k hBU1k hk1
                      refine hK.out _ _ trivial (fun _ => ?_)
                      clear hK K
                      try simp only [Act.put, List.setIfInBounds_toArray, List.set_cons_zero, List.set_cons_succ]
                      refine wpAnyH_take (S := fun _ => True) (i := 12) (oi := { dst := some 7, op := Go.Op.assign (Go.Operand.tmp 71), type := 31, pos := "l05_space.go:149", after := #[{ on := 11, ground := Go.Ground.data }, { on := 11, ground := Go.Ground.chain }, { on := 0, ground := Go.Ground.phase }, { on := 1, ground := Go.Ground.phase }, { on := 2, ground := Go.Ground.phase }, { on := 3, ground := Go.Ground.phase }, { on := 4, ground := Go.Ground.phase }, { on := 5, ground := Go.Ground.phase }, { on := 6, ground := Go.Ground.phase }, { on := 7, ground := Go.Ground.phase }, { on := 8, ground := Go.Ground.phase }, { on := 9, ground := Go.Ground.phase }, { on := 10, ground := Go.Ground.phase }, { on := 11, ground := Go.Ground.phase }], guard := none }) (v := ?vy9) rfl (by kernel_rfl) (by kernel_rfl) (by kernel_rfl) (fun _ _ _ h => h) (Or.inl ⟨by rfl, ?hy9⟩) trivial ?ry9
                      case hy9 => (intro w hSw; (try dsimp only at hSw); go_simp; try with_reducible rfl)
                      try simp only [Act.put, List.setIfInBounds_toArray, List.set_cons_zero, List.set_cons_succ]
                      refine wpAnyH_done (by kernel_rfl) ?_ _
                      refine NoPanic.normal ?_
                      have HM : Hid (kk = min (i + 1) kk) := by show kk = min (i + 1) kk; omega
                      have hc3 : ln + 1 ≤ cap3 := HO3.out.2.elim (fun h => by cases h.1) (fun ⟨_, _, _, e, _, _, h, _⟩ => by injection e with _ e2 e; omega)
                      have hc3' : (kk : Int) ≤ (cap3 : Int) := by have := HZ.out; omega
                      have HO4 : Hid (OwnI (w.heap.size + 1) w3 (.slice (some ⟨g3, 0, none⟩) kk cap3) (lsOX (rot (fun x => if x = i then i else o x) lo i (i + 1)) kk)) := by
                        have := own_take HO3.out (k := kk) (by have := HZ.out; omega)
                        rwa [lsO_take _ (by have := HZ.out; omega)] at this
                      clear own3 grow3
                      go_wp2
                      go_roundw
                      case rel => exact ⟨i + 1, g3, cap3, kk, _, by omega, by go_num, HM.out, rfl, HO4.out, HN.out, HB3.out⟩
                      case measure => simp [intOf]; omega
                  · go_simp
                    refine hK.out _ _ trivial (fun _ => ?_)
                    clear hK K
                    try simp only [Act.put, List.setIfInBounds_toArray, List.set_cons_zero, List.set_cons_succ]
                    refine wpAnyH_ready (rs := [0]) (by kernel_rfl) (by simp) ?_
                    refine (AllReadyH.cons (o := { dst := some 60, op := Go.Op.buildSlice 31 0 #[], type := 31, pos := "l05_space.go:149", after := #[], guard := none }) rfl (fun K hK => ?_) AllReadyH.nil)
                    go_simp
                    refine hK.out _ _ trivial (fun _ => ?_)
                    clear hK K
                    try simp only [Act.put, List.setIfInBounds_toArray, List.set_cons_zero, List.set_cons_succ]
                    refine wpAnyH_ready (rs := [4]) (by kernel_rfl) (by simp) ?_
                    refine (AllReadyH.cons (o := { dst := some 64, op := Go.Op.call { callee := Go.Callee.builtin Go.Builtin.append, args := #[Go.Operand.tmp 60, Go.Operand.tmp 63], argTypes := #[31, 31] }, type := 31, pos := "l05_space.go:149", after := #[{ on := 0, ground := Go.Ground.data }, { on := 3, ground := Go.Ground.data }], guard := none }) rfl (fun K hK => ?_) AllReadyH.nil)
                    refine app_ints _ _ rfl U.heap.size (U.heap.size + 1) 0 0 [] rfl (by have h := World.ownsRow_lit (base := U.heap.size) (e := 2) (size := 1) (U.alloc (.cells #[.int .i64 (i : Int)] 2)) #[] 0 (by simp) (Nat.zero_le _) rfl; rw [show (U.alloc (.cells #[.int .i64 (i : Int)] 2)).heap.size = U.heap.size + 1 by simp] at h; exact h) (some ⟨g, 0, none⟩) lo cap (ls.take lo) rfl _ (Classical.choose_spec (HIT.out _ (bel_alloc (bel_alloc (Bel.refl _) _) _))) HTl.out lo (by omega) (by omega) (by first | (simp; done) | (simp; omega)) ?_
                    intro g1 cap1 w1 own1k grow1
                    have hBU1k : Bel U w1 := bel_grow (bel_alloc (bel_alloc (Bel.refl U) _) _) grow1 (fun j e => by injection e with e; rw [← e]; exact Nat.le_succ _)
                    have hk1 : Ints w1 (some ⟨U.heap.size, 0, none⟩) [(i : Int)] [U.heap.size] := ints_lit1 (grow1.cell (a := ⟨U.heap.size, 0, none⟩) (by simp [go_sem]) (by simp)) hin
                    refine hK.out _ _ trivial (fun _ => ?_)
                    clear hK K
                    try simp only [Act.put, List.setIfInBounds_toArray, List.set_cons_zero, List.set_cons_succ]
                    refine wpAnyH_ready (rs := [7]) (by kernel_rfl) (by simp) ?_
                    refine (AllReadyH.cons (o := { dst := some 67, op := Go.Op.call { callee := Go.Callee.builtin Go.Builtin.append, args := #[Go.Operand.tmp 64, Go.Operand.tmp 66], argTypes := #[31, 31] }, type := 31, pos := "l05_space.go:149", after := #[{ on := 4, ground := Go.Ground.data }, { on := 6, ground := Go.Ground.data }, { on := 4, ground := Go.Ground.chain }], guard := none }) rfl (fun K hK => ?_) AllReadyH.nil)
                    refine app_ints _ _ rfl U.heap.size g1 lo cap1 ([] ++ ls.take lo) rfl own1k (some ⟨U.heap.size, 0, none⟩) 1 1 [(i : Int)] rfl [U.heap.size] hk1 rfl (lo + 1) rfl (by omega) hBU1k.out.size ?_
                    intro g2 cap2 w2 own2 grow2
                    have hBU2 : Bel U w2 := bel_grow hBU1k grow2 (fun j e => by injection e with e; rw [← e]; exact (own_at own1k).1)
                    refine hK.out _ _ trivial (fun _ => ?_)
                    clear hK K
                    try simp only [Act.put, List.setIfInBounds_toArray, List.set_cons_zero, List.set_cons_succ]
                    refine wpAnyH_ready (rs := [11]) (by kernel_rfl) (by simp) ?_
                    refine (AllReadyH.cons (o := { dst := some 71, op := Go.Op.call { callee := Go.Callee.builtin Go.Builtin.append, args := #[Go.Operand.tmp 67, Go.Operand.tmp 70], argTypes := #[31, 31] }, type := 31, pos := "l05_space.go:149", after := #[{ on := 7, ground := Go.Ground.data }, { on := 10, ground := Go.Ground.data }, { on := 7, ground := Go.Ground.chain }], guard := none }) rfl (fun K hK => ?_) AllReadyH.nil)
                    refine app_ints _ _ rfl U.heap.size g2 (lo + 1) cap2 (([] ++ ls.take lo) ++ [(i : Int)]) rfl own2 _ (ln - lo) _ (ls.drop lo) rfl _ (Classical.choose_spec (HIX.out w2 hBU2 _ (by intro h; first | rfl | (rw [if_neg (by omega)])))) HDl.out (ln + 1) (by omega) (by omega) hBU2.out.size ?_
                    intro g3 cap3 w3 own3 grow3
                    have HB3 : Hid (Bel W0 w3) := bel_step hBwU (bel_grow hBU2 grow3 (fun j e => by injection e with e; rw [← e]; exact (own_at own2).1))
                    have HO3 : Hid (OwnI (w.heap.size + 1) w3 (.slice (some ⟨g3, 0, none⟩) (ln + 1) cap3) (lsOX (rot (fun x => if x = i then i else o x) lo i (i + 1)) (ln + 1))) := by rw [← HE.out]; exact own_base own3 (by rw [HS1.out]; exact hBwU.out.size)
                    clear own2 grow2 hBU2 own1k hBU1k hk1
                    refine hK.out _ _ trivial (fun _ => ?_)
                    clear hK K
                    try simp only [Act.put, List.setIfInBounds_toArray, List.set_cons_zero, List.set_cons_succ]
                    refine wpAnyH_take (S := fun _ => True) (i := 12) (oi := { dst := some 7, op := Go.Op.assign (Go.Operand.tmp 71), type := 31, pos := "l05_space.go:149", after := #[{ on := 11, ground := Go.Ground.data }, { on := 11, ground := Go.Ground.chain }, { on := 0, ground := Go.Ground.phase }, { on := 1, ground := Go.Ground.phase }, { on := 2, ground := Go.Ground.phase }, { on := 3, ground := Go.Ground.phase }, { on := 4, ground := Go.Ground.phase }, { on := 5, ground := Go.Ground.phase }, { on := 6, ground := Go.Ground.phase }, { on := 7, ground := Go.Ground.phase }, { on := 8, ground := Go.Ground.phase }, { on := 9, ground := Go.Ground.phase }, { on := 10, ground := Go.Ground.phase }, { on := 11, ground := Go.Ground.phase }], guard := none }) (v := ?vy10) rfl (by kernel_rfl) (by kernel_rfl) (by kernel_rfl) (fun _ _ _ h => h) (Or.inl ⟨by rfl, ?hy10⟩) trivial ?ry10
                    case hy10 => (intro w hSw; (try dsimp only at hSw); go_simp; try with_reducible rfl)
                    try simp only [Act.put, List.setIfInBounds_toArray, List.set_cons_zero, List.set_cons_succ]
                    refine wpAnyH_done (by kernel_rfl) ?_ _
                    refine NoPanic.normal ?_
                    have HM : Hid (kk = min (i + 1) kk) := by show kk = min (i + 1) kk; omega
                    have hc3 : ln + 1 ≤ cap3 := HO3.out.2.elim (fun h => by cases h.1) (fun ⟨_, _, _, e, _, _, h, _⟩ => by injection e with _ e2 e; omega)
                    have hc3' : (kk : Int) ≤ (cap3 : Int) := by have := HZ.out; omega
                    have HO4 : Hid (OwnI (w.heap.size + 1) w3 (.slice (some ⟨g3, 0, none⟩) kk cap3) (lsOX (rot (fun x => if x = i then i else o x) lo i (i + 1)) kk)) := by
                      have := own_take HO3.out (k := kk) (by have := HZ.out; omega)
                      rwa [lsO_take _ (by have := HZ.out; omega)] at this
                    clear own3 grow3
                    go_wp2
                    go_roundw
                    case rel => exact ⟨i + 1, g3, cap3, kk, _, by omega, by go_num, HM.out, rfl, HO4.out, HN.out, HB3.out⟩
                    case measure => simp [intOf]; omega
              · have HZ : Hid (lo = kk ∧ ln = kk) := ⟨by omega, by omega⟩
                have hlk' : ¬ (lo : Int) < (kk : Int) := by omega
                have hgtk2 : ¬ (kk : Int) < (ln : Int) := by omega
                obtain ⟨l, p1, p2, p3⟩ := HB.out.place dd
                have hlk2 : kk ≤ l := by
                  rcases Nat.lt_or_ge l kk with h | h
                  · have h4 := HL1.out l (by omega)
                    have h5 := p3 l (Nat.le_refl _) (by omega)
                    omega
                  · exact h
                have HN : Hid (Bk (fun i => dsq px py (X i) (Y i)) (rot (fun x => if x = i then i else o x) l i (i + 1)) 0 (i + 1)) := by
                  refine HB.out.ins p1 (fun x hx => ?_) (fun x hx1 hx2 => ?_)
                  · show ¬ dsq px py (X i) (Y i) < _
                    rw [HKi.out]; exact p2 x hx
                  · show dsq px py (X i) (Y i) < _
                    rw [HKi.out]; exact p3 x hx1 hx2
                have HOn : Hid (OwnI (w.heap.size + 1) wc (.slice (some ⟨g, 0, none⟩) ln cap) (lsOX (rot (fun x => if x = i then i else o x) l i (i + 1)) ln)) := by
                  have e : lsOX (rot (fun x => if x = i then i else o x) l i (i + 1)) ln = lsOX o ln := lsO_same fun x hx => by
                    rw [rot_out _ (by omega) p1 (Or.inl (by have := HZ.out.2; omega)), if_neg (by omega)]
                  rw [e]; exact own_bel HO.out hbc
                have HM : Hid (ln = min (i + 1) kk) := by show ln = min (i + 1) kk; have := HZ.out.2; have := HLn.out; omega
                clear p2 p3
                go_wp2
                go_roundw
                case rel => exact ⟨i + 1, g, cap, ln, _, by omega, by go_num, HM.out, rfl, HOn.out, HN.out, bel_step hBr hbc⟩
                case measure => simp [intOf]; omega
          · obtain rfl : i = n := by omega
            have hlt' : ¬ (i : Int) < (i : Int) := by omega
            have HS : Hid (NstL i X Y px py kk (lsOX o ln)) := (Or.inr ⟨⟨HRB.out, HPk.out, by omega⟩, o, HB.out, by rw [HLn.out]; rfl⟩ : NstL i X Y px py kk (lsOX o ln))
            go_wp2
            go_ret
            exact ⟨_, rfl, _, own_base hO (Nat.le_succ _), HS.out, bel_step hBW hBr⟩
end Go.Proofs.YtkinpfnelmdmlaaDoor


