/-
  Contract of the model's sorting of a row by codes.
-/
import Derived.Test.YtgniopdjplppdaaDoorSortM
import Derived.Test.YtgniopdjplppdaaDoorCodC
import Derived.Test.YtgniopdjplppdaaDoorPtsC
import Derived.Test.YtgniopdjplppdaaDoorAppI
import Derived.Deep.RegionHeld3
namespace Go.Proofs.YtgniopdjplppdaaDoor
open Go.RowKit Go.Maps

/-- The first i of a row of numbers, as a list. -/
def lsO (o : Nat → Nat) (i : Nat) : List Int := (List.range i).map fun x => ((o x : Nat) : Int)
theorem lsO_len (o : Nat → Nat) (i : Nat) : (lsO o i).length = i := by simp [lsO]
theorem lsO_at (o : Nat → Nat) {i x : Nat} (h : x < (lsO o i).length) : (lsO o i)[x] = ((o x : Nat) : Int) := by simp [lsO]
theorem lsO_ins (o : Nat → Nat) {i l : Nat} (hl : l ≤ i) : ((lsO o i).take l ++ [(i : Int)]) ++ (lsO o i).drop l = lsO (rot (fun x => if x = i then i else o x) l i (i + 1)) (i + 1) := by
  have e0 : (lsO o i).length = i := lsO_len o i
  apply List.ext_getElem
  · simp [lsO_len]; omega
  · intro x h1 h2
    rw [lsO_at]
    by_cases c1 : x < l
    · rw [List.getElem_append_left (by simp [lsO_len]; omega), List.getElem_append_left (by simp [lsO_len]; omega), List.getElem_take, lsO_at, rot_out _ (by omega) (by omega) (Or.inl c1), if_neg (by omega)]
    · by_cases c2 : x = l
      · subst c2
        rw [List.getElem_append_left (by simp [lsO_len]; omega), List.getElem_append_right (by rw [List.length_take, lsO_len]; omega)]
        rw [rot_fst _ (by omega) (by omega), if_pos (by omega)]
        simp
      · have hx : x < i + 1 := by rw [lsO_len] at h2; exact h2
        rw [List.getElem_append_right (by simp [lsO_len]; omega), List.getElem_drop, lsO_at, rot_snd _ (by omega) (by omega), if_neg (by omega)]
        congr 2
        simp [lsO_len]; omega
theorem lsO_in64 {o : Nat → Nat} {i : Nat} (h : ∀ x, x < i → o x < i) (hi : i ≤ 1048576) : ∀ y ∈ lsO o i, In64 y := by
  intro y hy
  obtain ⟨x, hx, rfl⟩ := List.mem_map.1 hy
  have := h x (List.mem_range.1 hx)
  exact ⟨by omega, by omega⟩

set_option maxRecDepth 100000 in
set_option maxHeartbeats 4000000 in
theorem l5Sort_any (a : Option Addr) (n c : Nat) (X Y : Nat → Int) (w : World) (hP : Pts w a n X Y) (hn : n ≤ 2000) :
    Calls Tryd.prog 60 #[.slice a n c] w fun e w' => ∃ (o : Nat → Nat) (v : Value), e = .returned v ∧ OwnI w.heap.size w' v (lsO o n) ∧ Bk (fun i => cod (X i) (Y i)) o 0 n ∧ Bel w w' := by
  have HP : Hid (Pts w a n X Y) := hP
  clear hP
  have O0 : OwnI w.heap.size (w.alloc (.cells #[] 2)) (.slice (some ⟨w.heap.size, 0, none⟩) 0 0) (lsO (fun i => i) 0) := World.ownsRow_lit (base := w.heap.size) (e := 2) (size := 1) w #[] 0 (Nat.le_refl _) (Nat.zero_le _) rfl
  go_enter Tryd.func60, Tryd.ntmps60
  go_wp2
  go_loopw [3, 4, 5, 6, 7, 8] (fun v u _ _ _ _ wr => ∃ (i g cap : Nat) (o : Nat → Nat), i ≤ n ∧ u = .int .i64 i ∧ v = .slice (some ⟨g, 0, none⟩) i cap ∧ OwnI w.heap.size wr (.slice (some ⟨g, 0, none⟩) i cap) (lsO o i) ∧ Bk (fun i => cod (X i) (Y i)) o 0 i ∧ Bel w wr) (fun _ u _ _ _ _ _ => n - (intOf u).toNat)
  case atStart => exact ⟨0, _, _, _, Nat.zero_le _, rfl, rfl, O0, Bk.nil _ _ (Nat.le_refl _), bel_alloc (Bel.refl _) _⟩
  case round =>
    clear O0
    obtain ⟨i, g, cap, o, hi, rfl, rfl, hO, hB, hBw⟩ := hrel
    have HB : Hid (Bk (fun i => cod (X i) (Y i)) o 0 i) := hB
    clear hB
    by_cases hlt : i < n
    · have hlt' : (i : Int) < (n : Int) := by omega
      rcases HP.out.bel hBw with h | ⟨b, off, rfl, h2, h3⟩
      · omega
      obtain ⟨cx, cy⟩ := h3 i hlt
      obtain ⟨x, Hx⟩ : ∃ x, Hid (X i = x) := ⟨_, (rfl : X i = _)⟩
      obtain ⟨y, Hy⟩ : ∃ x, Hid (Y i = x) := ⟨_, (rfl : Y i = _)⟩
      rw [Hx.out] at cx
      rw [Hy.out] at cy
      have HC : Hid (∀ j, j < n → wr.cell? ⟨b, off + j * 2, none⟩ = some (.int .i64 (X j)) ∧ wr.cell? ⟨b, off + j * 2 + 1, none⟩ = some (.int .i64 (Y j))) := h3
      have hI := own_ints hO (lsO_in64 (fun x hx => (HB.out.2 x (Nat.zero_le _) hx).2) (by omega))
      obtain ⟨kc, Hkc⟩ : ∃ k, Hid (cod x y = k) := ⟨_, (rfl : cod x y = _)⟩
      clear h3
      go_wp2_with fail
      refine (specCodeOf_any _ _ _).mono ?_
      rintro e w1 ⟨rfl, hb1⟩
      rw [Hkc.out]
      have hr1 : Bel wr w1 := hb1
      have Ho := HB.out.2
      have HCo : Hid (∀ h, h < i → wr.cell? ⟨g, h, none⟩ = some (.int .i64 ((o h : Nat) : Int))) := fun h hh => by
        obtain ⟨a', c', bs', e', I', _⟩ := hI
        injection e' with e1 e2 e3
        subst e1
        obtain ⟨b1, off1, f1, e4, _, hx1⟩ := I'.out (k := h) (by rw [lsO_len]; exact hh)
        injection e4 with e4
        injection e4 with e5 e6
        subst e5; subst e6
        have := (hx1 h (by rw [lsO_len]; exact hh)).2.2
        rw [lsO_at, Nat.zero_add, Nat.mul_one] at this
        exact this
      have hgl : g < wr.heap.size := (own_at hO).2.1
      have HO : Hid (OwnI w.heap.size wr (.slice (some ⟨g, 0, none⟩) i cap) (lsO o i)) := hO
      have HI : Hid (∃ bs, Ints wr (some ⟨g, 0, none⟩) (lsO o i) bs) := by
        obtain ⟨a', c', bs', e', I', _⟩ := hI
        injection e' with e1 e2 e3
        subst e1
        exact ⟨bs', I'⟩
      clear hI hO hb1 Ho
      go_wp2
      obtain ⟨w0, hw0⟩ : ∃ V : World, V = wr := ⟨wr, rfl⟩
      subst hw0
      go_loopw [6, 7, 8] (fun u v _ wr => ∃ lo hi : Nat, u = .int .i64 lo ∧ v = .int .i64 hi ∧ lo ≤ hi ∧ hi ≤ i ∧ (∀ x, x < lo → cod (X (o x)) (Y (o x)) ≤ kc) ∧ (∀ x, hi ≤ x → x < i → kc < cod (X (o x)) (Y (o x))) ∧ Bel w0 wr) (fun u v _ _ => (intOf v).toNat - (intOf u).toNat)
      case atStart => exact ⟨0, i, rfl, rfl, Nat.zero_le _, Nat.le_refl _, fun x hx => absurd hx (Nat.not_lt_zero _), fun x h1 h2 => absurd h2 (by omega), hr1⟩
      case round =>
        clear hr1
        obtain ⟨lo, hi', rfl, rfl, hlh, hhi, hl1, hl2, hbr⟩ := hrel
        have HL1 : Hid (∀ x, x < lo → cod (X (o x)) (Y (o x)) ≤ kc) := hl1
        have HL2 : Hid (∀ x, hi' ≤ x → x < i → kc < cod (X (o x)) (Y (o x))) := hl2
        clear hl1 hl2
        by_cases hll : lo < hi'
        · have hll' : (lo : Int) < (hi' : Int) := by omega
          obtain ⟨h, hh⟩ : ∃ h : Nat, ((lo : Int) + (hi' : Int)) / 2 = h := ⟨(lo + hi') / 2, by omega⟩
          have hh2 : ((lo : Int) + (hi' : Int)).tdiv 2 = h := by rw [Int.tdiv_eq_ediv_of_nonneg (by omega)]; exact hh
          have h1 : lo ≤ h := by omega
          have h2' : h < hi' := by omega
          have hih : h < i := by omega
          have hih' : (h : Int) < (i : Int) := by omega
          obtain ⟨q, Hq⟩ : ∃ q, Hid (o h = q) := ⟨_, (rfl : o h = _)⟩
          have hqi : q < i := by rw [← Hq.out]; exact (HB.out.2 h (Nat.zero_le _) hih).2
          have hqn : q < n := by omega
          have hqn' : (q : Int) < (n : Int) := by omega
          have ro : wr.cell? ⟨g, h, none⟩ = some (.int .i64 (q : Int)) := by rw [← Hq.out]; exact bel_cellM hbr hgl (HCo.out h hih)
          obtain ⟨u1, u2⟩ := HC.out q hqn
          have u1 := bel_cellM hbr h2 u1
          have u2 := bel_cellM hbr h2 u2
          obtain ⟨qx, Hqx⟩ : ∃ x, Hid (X q = x) := ⟨_, (rfl : X q = _)⟩
          obtain ⟨qy, Hqy⟩ : ∃ x, Hid (Y q = x) := ⟨_, (rfl : Y q = _)⟩
          rw [Hqx.out] at u1
          rw [Hqy.out] at u2
          obtain ⟨kq, Hkq⟩ : ∃ k, Hid (cod qx qy = k) := ⟨_, (rfl : cod qx qy = _)⟩
          go_wp2_with fail
          refine (specCodeOf_any _ _ _).mono ?_
          rintro e w2 ⟨rfl, hb2⟩
          rw [Hkq.out]
          have HKh : Hid (cod (X (o h)) (Y (o h)) = kq) := by show cod (X (o h)) (Y (o h)) = kq; rw [Hq.out, Hqx.out, Hqy.out]; exact Hkq.out
          by_cases hK : kq ≤ kc
          · have HN : Hid (∀ x, x < h + 1 → cod (X (o x)) (Y (o x)) ≤ kc) := fun x hx => by
              have hm := HB.out.1.le (Nat.zero_le x) (show x ≤ h by omega) hih
              have hkh := HKh.out
              rcases hm with e | e
              · subst e; omega
              · unfold Ro at e; dsimp only at e; omega
            go_wp2
            go_roundw
            case rel => exact ⟨h + 1, hi', by go_num, rfl, by omega, hhi, HN.out, HL2.out, bel_step hbr hb2⟩
            case measure => simp [intOf]; omega
          · have HN : Hid (∀ x, h ≤ x → x < i → kc < cod (X (o x)) (Y (o x))) := fun x hx1 hx2 => by
              have hm := HB.out.1.le (Nat.zero_le h) hx1 hx2
              have hkh := HKh.out
              rcases hm with e | e
              · subst e; omega
              · unfold Ro at e; dsimp only at e; omega
            go_wp2
            go_roundw
            case rel => exact ⟨lo, h, rfl, rfl, h1, by omega, HL1.out, HN.out, bel_step hbr hb2⟩
            case measure => simp [intOf]; omega
        · obtain rfl : lo = hi' := by omega
          have hll' : ¬ (lo : Int) < (lo : Int) := by omega
          have HKi : Hid (cod (X i) (Y i) = kc) := by show cod (X i) (Y i) = kc; rw [Hx.out, Hy.out]; exact Hkc.out
          have HN : Hid (Bk (fun i => cod (X i) (Y i)) (rot (fun x => if x = i then i else o x) lo i (i + 1)) 0 (i + 1)) := by
            refine HB.out.ins hhi (fun x hx => ?_) (fun x hx1 hx2 => ?_)
            · show ¬ cod (X i) (Y i) < _
              rw [HKi.out]; have := HL1.out x hx; omega
            · show cod (X i) (Y i) < _
              rw [HKi.out]; exact HL2.out x hx1 hx2
          obtain ⟨ls, Hls⟩ : ∃ l, Hid (lsO o i = l) := ⟨_, (rfl : lsO o i = _)⟩
          have HLen : Hid (ls.length = i) := by show ls.length = i; rw [← Hls.out]; exact lsO_len o i
          have HE : Hid ((ls.take lo ++ [(i : Int)]) ++ ls.drop lo = lsO (rot (fun x => if x = i then i else o x) lo i (i + 1)) (i + 1)) := by rw [← Hls.out]; exact lsO_ins o hhi
          rw [Hls.out] at HO HI
          have hBU : Bel w0 wr.drew := bel_step hbr (Bel.drew (Bel.refl _))
          have HIT : Hid (∃ bs, Ints wr.drew (some ⟨g, 0, none⟩) (ls.take lo) bs) := by
            obtain ⟨bs, I0⟩ := HI.out
            exact ints_take (I0.bel intE hBU) lo
          have HID : Hid (∃ bs, Ints wr.drew (some ⟨g, lo, none⟩) (ls.drop lo) bs) := by
            obtain ⟨bs, I0⟩ := HI.out
            have := ints_drop (I0.bel intE hBU) lo
            rwa [Nat.zero_add] at this
          have hcap : i ≤ cap := HO.out.2.elim (fun h => by cases h.1) (fun ⟨_, _, _, e, _, _, h, _⟩ => by injection e with _ _ e; omega)
          have hlo0 : (0 : Int) ≤ (lo : Int) := by omega
          have hlc : (lo : Int) ≤ (cap : Int) := by omega
          have hli : (lo : Int) ≤ (i : Int) := by omega
          have hic : (i : Int) ≤ (cap : Int) := by omega
          go_wp2
          obtain ⟨U, hU⟩ : ∃ V : World, V = wr.drew := ⟨_, rfl⟩
          have hBwU : Bel w U := by rw [hU]; exact bel_step hBw hBU
          have HIT : Hid (∀ V, Bel U V → ∃ bs, Ints V (some ⟨g, 0, none⟩) (ls.take lo) bs) := fun V h => by obtain ⟨bs, I0⟩ := HI.out; exact ints_take (I0.bel intE (bel_step (by rw [hU]; exact hBU) h)) lo
          have HIX : Hid (∀ V, Bel U V → ∀ ad : Option Addr, (lo < i → ad = some ⟨g, lo, none⟩) → ∃ bs, Ints V ad (ls.drop lo) bs) := fun V h ad had => by
            by_cases hc : lo < i
            · obtain ⟨bs, I0⟩ := HI.out
              have := ints_drop (I0.bel intE (bel_step (show Bel w0 U by rw [hU]; exact hBU) h)) lo
              rw [Nat.zero_add] at this; rw [had hc]; exact this
            · have e : ls.drop lo = [] := List.drop_eq_nil_of_le (by rw [HLen.out]; omega)
              rw [e]; exact ⟨[], Sl.nil⟩
          have HTl : Hid ((ls.take lo).length = lo) := by show (ls.take lo).length = lo; rw [List.length_take, HLen.out]; omega
          have HDl : Hid ((ls.drop lo).length = i - lo) := by show (ls.drop lo).length = i - lo; rw [List.length_drop, HLen.out]
          have hin : In64 (i : Int) := ⟨by omega, by omega⟩
          refine wp_region_noPanic ?_
          refine wp_region_held_drew (S := fun _ => True) (by kernel_rfl) trivial (fun hHeld => ?_)
          rw [← hU]
          clear hU hBU
          refine wpAnyH_take (S := fun _ => True) (i := 1) (oi := { dst := some 44, op := Go.Op.move (Go.Operand.tmp 3), type := 52, pos := "l05_space.go:111", after := #[], guard := none }) (v := ?vz1) rfl (by kernel_rfl) (by kernel_rfl) (by kernel_rfl) (fun _ _ _ h => h) (Or.inl ⟨by rfl, ?hz1⟩) trivial ?rz1
          case hz1 => (intro w hSw; (try dsimp only at hSw); go_simp; try with_reducible rfl)
          try simp only [Act.put, List.setIfInBounds_toArray, List.set_cons_zero, List.set_cons_succ]
          refine wpAnyH_take (S := fun _ => True) (i := 2) (oi := { dst := some 45, op := Go.Op.move (Go.Operand.tmp 6), type := 3, pos := "l05_space.go:111", after := #[], guard := none }) (v := ?vz2) rfl (by kernel_rfl) (by kernel_rfl) (by kernel_rfl) (fun _ _ _ h => h) (Or.inl ⟨by rfl, ?hz2⟩) trivial ?rz2
          case hz2 => (intro w hSw; (try dsimp only at hSw); go_simp; try with_reducible rfl)
          try simp only [Act.put, List.setIfInBounds_toArray, List.set_cons_zero, List.set_cons_succ]
          refine wpAnyH_take (S := fun _ => True) (i := 3) (oi := { dst := some 46, op := Go.Op.slice 52 (Go.Operand.tmp 44) none (some (Go.Operand.tmp 45)) none, type := 52, pos := "l05_space.go:111", after := #[{ on := 1, ground := Go.Ground.data }, { on := 2, ground := Go.Ground.data }], guard := none }) (v := ?vz3) rfl (by kernel_rfl) (by kernel_rfl) (by kernel_rfl) (fun _ _ _ h => h) (Or.inl ⟨by rfl, ?hz3⟩) trivial ?rz3
          case hz3 => (intro w hSw; (try dsimp only at hSw); go_simp; try with_reducible rfl)
          try simp only [Act.put, List.setIfInBounds_toArray, List.set_cons_zero, List.set_cons_succ]
          refine wpAnyH_take (S := fun _ => True) (i := 5) (oi := { dst := some 48, op := Go.Op.move (Go.Operand.tmp 4), type := 3, pos := "l05_space.go:111", after := #[], guard := none }) (v := ?vz4) rfl (by kernel_rfl) (by kernel_rfl) (by kernel_rfl) (fun _ _ _ h => h) (Or.inl ⟨by rfl, ?hz4⟩) trivial ?rz4
          case hz4 => (intro w hSw; (try dsimp only at hSw); go_simp; try with_reducible rfl)
          try simp only [Act.put, List.setIfInBounds_toArray, List.set_cons_zero, List.set_cons_succ]
          refine wpAnyH_take (S := fun _ => True) (i := 8) (oi := { dst := some 51, op := Go.Op.move (Go.Operand.tmp 3), type := 52, pos := "l05_space.go:111", after := #[], guard := none }) (v := ?vz5) rfl (by kernel_rfl) (by kernel_rfl) (by kernel_rfl) (fun _ _ _ h => h) (Or.inl ⟨by rfl, ?hz5⟩) trivial ?rz5
          case hz5 => (intro w hSw; (try dsimp only at hSw); go_simp; try with_reducible rfl)
          try simp only [Act.put, List.setIfInBounds_toArray, List.set_cons_zero, List.set_cons_succ]
          refine wpAnyH_take (S := fun _ => True) (i := 9) (oi := { dst := some 52, op := Go.Op.move (Go.Operand.tmp 6), type := 3, pos := "l05_space.go:111", after := #[], guard := none }) (v := ?vz6) rfl (by kernel_rfl) (by kernel_rfl) (by kernel_rfl) (fun _ _ _ h => h) (Or.inl ⟨by rfl, ?hz6⟩) trivial ?rz6
          case hz6 => (intro w hSw; (try dsimp only at hSw); go_simp; try with_reducible rfl)
          try simp only [Act.put, List.setIfInBounds_toArray, List.set_cons_zero, List.set_cons_succ]
          refine wpAnyH_take (S := fun _ => True) (i := 10) (oi := { dst := some 53, op := Go.Op.slice 52 (Go.Operand.tmp 51) (some (Go.Operand.tmp 52)) none none, type := 52, pos := "l05_space.go:111", after := #[{ on := 8, ground := Go.Ground.data }, { on := 9, ground := Go.Ground.data }], guard := none }) (v := ?vz7) rfl (by kernel_rfl) (by kernel_rfl) (by kernel_rfl) (fun _ _ _ h => h) (Or.inl ⟨by rfl, ?hz7⟩) trivial ?rz7
          case hz7 => (intro w hSw; (try dsimp only at hSw); go_simp; try with_reducible rfl)
          try simp only [Act.put, List.setIfInBounds_toArray, List.set_cons_zero, List.set_cons_succ]
          refine wpAnyH_ready (rs := [0, 6]) (by kernel_rfl) (by simp) ?_
          refine (AllReadyH.cons (o := { dst := some 43, op := Go.Op.buildSlice 52 0 #[], type := 52, pos := "l05_space.go:111", after := #[], guard := none }) rfl (fun K hK => ?_) (AllReadyH.cons (o := { dst := some 49, op := Go.Op.buildSlice 52 1 #[(0, Go.Operand.tmp 48)], type := 52, pos := "l05_space.go:111", after := #[{ on := 5, ground := Go.Ground.data }], guard := none }) rfl (fun K hK => ?_) AllReadyH.nil))
          · go_simp
            refine hK.out _ _ trivial (fun _ => ?_)
            clear hK K
            try simp only [Act.put, List.setIfInBounds_toArray, List.set_cons_zero, List.set_cons_succ]
            refine wpAnyH_ready (rs := [4, 6]) (by kernel_rfl) (by simp) ?_
            refine (AllReadyH.cons (o := { dst := some 47, op := Go.Op.call { callee := Go.Callee.builtin Go.Builtin.append, args := #[Go.Operand.tmp 43, Go.Operand.tmp 46], argTypes := #[52, 52] }, type := 52, pos := "l05_space.go:111", after := #[{ on := 0, ground := Go.Ground.data }, { on := 3, ground := Go.Ground.data }], guard := none }) rfl (fun K hK => ?_) (AllReadyH.cons (o := { dst := some 49, op := Go.Op.buildSlice 52 1 #[(0, Go.Operand.tmp 48)], type := 52, pos := "l05_space.go:111", after := #[{ on := 5, ground := Go.Ground.data }], guard := none }) rfl (fun K hK => ?_) AllReadyH.nil))
            · refine app_ints _ _ rfl U.heap.size U.heap.size 0 0 [] rfl (World.ownsRow_lit (base := U.heap.size) (e := 2) (size := 1) U #[] 0 (Nat.le_refl _) (Nat.zero_le _) rfl) (some ⟨g, 0, none⟩) lo cap (ls.take lo) rfl _ (Classical.choose_spec (HIT.out _ (bel_alloc (Bel.refl _) _))) HTl.out lo (by omega) (by omega) (by first | (simp; done) | (simp; omega)) ?_
              intro g1 cap1 w1 own1 grow1
              have hBU1 : Bel U w1 := bel_grow (bel_alloc (Bel.refl U) _) grow1 (fun j e => by injection e with e; rw [← e]; exact Nat.le_refl _)
              have own1k : OwnI U.heap.size (w1.alloc (.cells #[.int .i64 (i : Int)] 2)) (.slice (some ⟨g1, 0, none⟩) lo cap1) ([] ++ ls.take lo) := own_bel own1 (bel_alloc (Bel.refl _) _)
              have hBU1k : Bel U (w1.alloc (.cells #[.int .i64 (i : Int)] 2)) := bel_alloc hBU1 _
              have hk1 : Ints (w1.alloc (.cells #[.int .i64 (i : Int)] 2)) (some ⟨w1.heap.size, 0, none⟩) [(i : Int)] [w1.heap.size] := ints_lit1 (by simp [go_sem]) hin
              refine hK.out _ _ trivial (fun _ => ?_)
              clear hK K
              try simp only [Act.put, List.setIfInBounds_toArray, List.set_cons_zero, List.set_cons_succ]
              refine wpAnyH_ready (rs := [6]) (by kernel_rfl) (by simp) ?_
              refine (AllReadyH.cons (o := { dst := some 49, op := Go.Op.buildSlice 52 1 #[(0, Go.Operand.tmp 48)], type := 52, pos := "l05_space.go:111", after := #[{ on := 5, ground := Go.Ground.data }], guard := none }) rfl (fun K hK => ?_) AllReadyH.nil)
              go_simp
              refine hK.out _ _ trivial (fun _ => ?_)
              clear hK K
              try simp only [Act.put, List.setIfInBounds_toArray, List.set_cons_zero, List.set_cons_succ]
              refine wpAnyH_ready (rs := [7]) (by kernel_rfl) (by simp) ?_
              refine (AllReadyH.cons (o := { dst := some 50, op := Go.Op.call { callee := Go.Callee.builtin Go.Builtin.append, args := #[Go.Operand.tmp 47, Go.Operand.tmp 49], argTypes := #[52, 52] }, type := 52, pos := "l05_space.go:111", after := #[{ on := 4, ground := Go.Ground.data }, { on := 6, ground := Go.Ground.data }, { on := 4, ground := Go.Ground.chain }], guard := none }) rfl (fun K hK => ?_) AllReadyH.nil)
              refine app_ints _ _ rfl U.heap.size g1 lo cap1 ([] ++ ls.take lo) rfl own1k (some ⟨w1.heap.size, 0, none⟩) 1 1 [(i : Int)] rfl [w1.heap.size] hk1 rfl (lo + 1) rfl (by omega) hBU1k.out.size ?_
              intro g2 cap2 w2 own2 grow2
              have hBU2 : Bel U w2 := bel_grow hBU1k grow2 (fun j e => by injection e with e; rw [← e]; exact (own_at own1k).1)
              refine hK.out _ _ trivial (fun _ => ?_)
              clear hK K
              try simp only [Act.put, List.setIfInBounds_toArray, List.set_cons_zero, List.set_cons_succ]
              refine wpAnyH_ready (rs := [11]) (by kernel_rfl) (by simp) ?_
              refine (AllReadyH.cons (o := { dst := some 54, op := Go.Op.call { callee := Go.Callee.builtin Go.Builtin.append, args := #[Go.Operand.tmp 50, Go.Operand.tmp 53], argTypes := #[52, 52] }, type := 52, pos := "l05_space.go:111", after := #[{ on := 7, ground := Go.Ground.data }, { on := 10, ground := Go.Ground.data }, { on := 7, ground := Go.Ground.chain }], guard := none }) rfl (fun K hK => ?_) AllReadyH.nil)
              refine app_ints _ _ rfl U.heap.size g2 (lo + 1) cap2 (([] ++ ls.take lo) ++ [(i : Int)]) rfl own2 _ (i - lo) _ (ls.drop lo) rfl _ (Classical.choose_spec (HIX.out w2 hBU2 _ (by intro h; first | rfl | (rw [if_neg (by omega)])))) HDl.out (i + 1) (by omega) (by omega) hBU2.out.size ?_
              intro g3 cap3 w3 own3 grow3
              have HB3 : Hid (Bel w w3) := bel_step hBwU (bel_grow hBU2 grow3 (fun j e => by injection e with e; rw [← e]; exact (own_at own2).1))
              have HO3 : Hid (OwnI w.heap.size w3 (.slice (some ⟨g3, 0, none⟩) (i + 1) cap3) (lsO (rot (fun x => if x = i then i else o x) lo i (i + 1)) (i + 1))) := by rw [← HE.out]; exact own_base own3 hBwU.out.size
              clear own2 grow2 hBU2 own1k hBU1k hk1
              refine hK.out _ _ trivial (fun _ => ?_)
              clear hK K
              try simp only [Act.put, List.setIfInBounds_toArray, List.set_cons_zero, List.set_cons_succ]
              refine wpAnyH_take (S := fun _ => True) (i := 12) (oi := { dst := some 3, op := Go.Op.assign (Go.Operand.tmp 54), type := 52, pos := "l05_space.go:111", after := #[{ on := 11, ground := Go.Ground.data }, { on := 11, ground := Go.Ground.chain }, { on := 0, ground := Go.Ground.phase }, { on := 1, ground := Go.Ground.phase }, { on := 2, ground := Go.Ground.phase }, { on := 3, ground := Go.Ground.phase }, { on := 4, ground := Go.Ground.phase }, { on := 5, ground := Go.Ground.phase }, { on := 6, ground := Go.Ground.phase }, { on := 7, ground := Go.Ground.phase }, { on := 8, ground := Go.Ground.phase }, { on := 9, ground := Go.Ground.phase }, { on := 10, ground := Go.Ground.phase }, { on := 11, ground := Go.Ground.phase }], guard := none }) (v := ?vz8) rfl (by kernel_rfl) (by kernel_rfl) (by kernel_rfl) (fun _ _ _ h => h) (Or.inl ⟨by rfl, ?hz8⟩) trivial ?rz8
              case hz8 => (intro w hSw; (try dsimp only at hSw); go_simp; try with_reducible rfl)
              try simp only [Act.put, List.setIfInBounds_toArray, List.set_cons_zero, List.set_cons_succ]
              refine wpAnyH_done (by kernel_rfl) ?_ _
              refine NoPanic.normal ?_
              clear own3 grow3
              go_wp2
              go_roundw
              case rel => exact ⟨i + 1, g3, cap3, _, by omega, by go_num, rfl, HO3.out, HN.out, HB3.out⟩
              case measure => simp [intOf]; omega
            · go_simp
              refine hK.out _ _ trivial (fun _ => ?_)
              clear hK K
              try simp only [Act.put, List.setIfInBounds_toArray, List.set_cons_zero, List.set_cons_succ]
              refine wpAnyH_ready (rs := [4]) (by kernel_rfl) (by simp) ?_
              refine (AllReadyH.cons (o := { dst := some 47, op := Go.Op.call { callee := Go.Callee.builtin Go.Builtin.append, args := #[Go.Operand.tmp 43, Go.Operand.tmp 46], argTypes := #[52, 52] }, type := 52, pos := "l05_space.go:111", after := #[{ on := 0, ground := Go.Ground.data }, { on := 3, ground := Go.Ground.data }], guard := none }) rfl (fun K hK => ?_) AllReadyH.nil)
              refine app_ints _ _ rfl U.heap.size U.heap.size 0 0 [] rfl (own_bel (World.ownsRow_lit (base := U.heap.size) (e := 2) (size := 1) U #[] 0 (Nat.le_refl _) (Nat.zero_le _) rfl) (bel_alloc (Bel.refl _) _)) (some ⟨g, 0, none⟩) lo cap (ls.take lo) rfl _ (Classical.choose_spec (HIT.out _ (bel_alloc (bel_alloc (Bel.refl _) _) _))) HTl.out lo (by omega) (by omega) (by first | (simp; done) | (simp; omega)) ?_
              intro g1 cap1 w1 own1k grow1
              have hBU1k : Bel U w1 := bel_grow (bel_alloc (bel_alloc (Bel.refl U) _) _) grow1 (fun j e => by injection e with e; rw [← e]; exact Nat.le_refl _)
              have hk1 : Ints w1 (some ⟨U.heap.size + 1, 0, none⟩) [(i : Int)] [U.heap.size + 1] := ints_lit1 (grow1.cell (a := ⟨U.heap.size + 1, 0, none⟩) (by simp [go_sem]) (by simp)) hin
              refine hK.out _ _ trivial (fun _ => ?_)
              clear hK K
              try simp only [Act.put, List.setIfInBounds_toArray, List.set_cons_zero, List.set_cons_succ]
              refine wpAnyH_ready (rs := [7]) (by kernel_rfl) (by simp) ?_
              refine (AllReadyH.cons (o := { dst := some 50, op := Go.Op.call { callee := Go.Callee.builtin Go.Builtin.append, args := #[Go.Operand.tmp 47, Go.Operand.tmp 49], argTypes := #[52, 52] }, type := 52, pos := "l05_space.go:111", after := #[{ on := 4, ground := Go.Ground.data }, { on := 6, ground := Go.Ground.data }, { on := 4, ground := Go.Ground.chain }], guard := none }) rfl (fun K hK => ?_) AllReadyH.nil)
              refine app_ints _ _ rfl U.heap.size g1 lo cap1 ([] ++ ls.take lo) rfl own1k (some ⟨U.heap.size + 1, 0, none⟩) 1 1 [(i : Int)] rfl [U.heap.size + 1] hk1 rfl (lo + 1) rfl (by omega) hBU1k.out.size ?_
              intro g2 cap2 w2 own2 grow2
              have hBU2 : Bel U w2 := bel_grow hBU1k grow2 (fun j e => by injection e with e; rw [← e]; exact (own_at own1k).1)
              refine hK.out _ _ trivial (fun _ => ?_)
              clear hK K
              try simp only [Act.put, List.setIfInBounds_toArray, List.set_cons_zero, List.set_cons_succ]
              refine wpAnyH_ready (rs := [11]) (by kernel_rfl) (by simp) ?_
              refine (AllReadyH.cons (o := { dst := some 54, op := Go.Op.call { callee := Go.Callee.builtin Go.Builtin.append, args := #[Go.Operand.tmp 50, Go.Operand.tmp 53], argTypes := #[52, 52] }, type := 52, pos := "l05_space.go:111", after := #[{ on := 7, ground := Go.Ground.data }, { on := 10, ground := Go.Ground.data }, { on := 7, ground := Go.Ground.chain }], guard := none }) rfl (fun K hK => ?_) AllReadyH.nil)
              refine app_ints _ _ rfl U.heap.size g2 (lo + 1) cap2 (([] ++ ls.take lo) ++ [(i : Int)]) rfl own2 _ (i - lo) _ (ls.drop lo) rfl _ (Classical.choose_spec (HIX.out w2 hBU2 _ (by intro h; first | rfl | (rw [if_neg (by omega)])))) HDl.out (i + 1) (by omega) (by omega) hBU2.out.size ?_
              intro g3 cap3 w3 own3 grow3
              have HB3 : Hid (Bel w w3) := bel_step hBwU (bel_grow hBU2 grow3 (fun j e => by injection e with e; rw [← e]; exact (own_at own2).1))
              have HO3 : Hid (OwnI w.heap.size w3 (.slice (some ⟨g3, 0, none⟩) (i + 1) cap3) (lsO (rot (fun x => if x = i then i else o x) lo i (i + 1)) (i + 1))) := by rw [← HE.out]; exact own_base own3 hBwU.out.size
              clear own2 grow2 hBU2 own1k hBU1k hk1
              refine hK.out _ _ trivial (fun _ => ?_)
              clear hK K
              try simp only [Act.put, List.setIfInBounds_toArray, List.set_cons_zero, List.set_cons_succ]
              refine wpAnyH_take (S := fun _ => True) (i := 12) (oi := { dst := some 3, op := Go.Op.assign (Go.Operand.tmp 54), type := 52, pos := "l05_space.go:111", after := #[{ on := 11, ground := Go.Ground.data }, { on := 11, ground := Go.Ground.chain }, { on := 0, ground := Go.Ground.phase }, { on := 1, ground := Go.Ground.phase }, { on := 2, ground := Go.Ground.phase }, { on := 3, ground := Go.Ground.phase }, { on := 4, ground := Go.Ground.phase }, { on := 5, ground := Go.Ground.phase }, { on := 6, ground := Go.Ground.phase }, { on := 7, ground := Go.Ground.phase }, { on := 8, ground := Go.Ground.phase }, { on := 9, ground := Go.Ground.phase }, { on := 10, ground := Go.Ground.phase }, { on := 11, ground := Go.Ground.phase }], guard := none }) (v := ?vz9) rfl (by kernel_rfl) (by kernel_rfl) (by kernel_rfl) (fun _ _ _ h => h) (Or.inl ⟨by rfl, ?hz9⟩) trivial ?rz9
              case hz9 => (intro w hSw; (try dsimp only at hSw); go_simp; try with_reducible rfl)
              try simp only [Act.put, List.setIfInBounds_toArray, List.set_cons_zero, List.set_cons_succ]
              refine wpAnyH_done (by kernel_rfl) ?_ _
              refine NoPanic.normal ?_
              clear own3 grow3
              go_wp2
              go_roundw
              case rel => exact ⟨i + 1, g3, cap3, _, by omega, by go_num, rfl, HO3.out, HN.out, HB3.out⟩
              case measure => simp [intOf]; omega
          · go_simp
            refine hK.out _ _ trivial (fun _ => ?_)
            clear hK K
            try simp only [Act.put, List.setIfInBounds_toArray, List.set_cons_zero, List.set_cons_succ]
            refine wpAnyH_ready (rs := [0]) (by kernel_rfl) (by simp) ?_
            refine (AllReadyH.cons (o := { dst := some 43, op := Go.Op.buildSlice 52 0 #[], type := 52, pos := "l05_space.go:111", after := #[], guard := none }) rfl (fun K hK => ?_) AllReadyH.nil)
            go_simp
            refine hK.out _ _ trivial (fun _ => ?_)
            clear hK K
            try simp only [Act.put, List.setIfInBounds_toArray, List.set_cons_zero, List.set_cons_succ]
            refine wpAnyH_ready (rs := [4]) (by kernel_rfl) (by simp) ?_
            refine (AllReadyH.cons (o := { dst := some 47, op := Go.Op.call { callee := Go.Callee.builtin Go.Builtin.append, args := #[Go.Operand.tmp 43, Go.Operand.tmp 46], argTypes := #[52, 52] }, type := 52, pos := "l05_space.go:111", after := #[{ on := 0, ground := Go.Ground.data }, { on := 3, ground := Go.Ground.data }], guard := none }) rfl (fun K hK => ?_) AllReadyH.nil)
            refine app_ints _ _ rfl U.heap.size (U.heap.size + 1) 0 0 [] rfl (by have h := World.ownsRow_lit (base := U.heap.size) (e := 2) (size := 1) (U.alloc (.cells #[.int .i64 (i : Int)] 2)) #[] 0 (by simp) (Nat.zero_le _) rfl; rw [show (U.alloc (.cells #[.int .i64 (i : Int)] 2)).heap.size = U.heap.size + 1 by simp] at h; exact h) (some ⟨g, 0, none⟩) lo cap (ls.take lo) rfl _ (Classical.choose_spec (HIT.out _ (bel_alloc (bel_alloc (Bel.refl _) _) _))) HTl.out lo (by omega) (by omega) (by first | (simp; done) | (simp; omega)) ?_
            intro g1 cap1 w1 own1k grow1
            have hBU1k : Bel U w1 := bel_grow (bel_alloc (bel_alloc (Bel.refl U) _) _) grow1 (fun j e => by injection e with e; rw [← e]; exact Nat.le_succ _)
            have hk1 : Ints w1 (some ⟨U.heap.size, 0, none⟩) [(i : Int)] [U.heap.size] := ints_lit1 (grow1.cell (a := ⟨U.heap.size, 0, none⟩) (by simp [go_sem]) (by simp)) hin
            refine hK.out _ _ trivial (fun _ => ?_)
            clear hK K
            try simp only [Act.put, List.setIfInBounds_toArray, List.set_cons_zero, List.set_cons_succ]
            refine wpAnyH_ready (rs := [7]) (by kernel_rfl) (by simp) ?_
            refine (AllReadyH.cons (o := { dst := some 50, op := Go.Op.call { callee := Go.Callee.builtin Go.Builtin.append, args := #[Go.Operand.tmp 47, Go.Operand.tmp 49], argTypes := #[52, 52] }, type := 52, pos := "l05_space.go:111", after := #[{ on := 4, ground := Go.Ground.data }, { on := 6, ground := Go.Ground.data }, { on := 4, ground := Go.Ground.chain }], guard := none }) rfl (fun K hK => ?_) AllReadyH.nil)
            refine app_ints _ _ rfl U.heap.size g1 lo cap1 ([] ++ ls.take lo) rfl own1k (some ⟨U.heap.size, 0, none⟩) 1 1 [(i : Int)] rfl [U.heap.size] hk1 rfl (lo + 1) rfl (by omega) hBU1k.out.size ?_
            intro g2 cap2 w2 own2 grow2
            have hBU2 : Bel U w2 := bel_grow hBU1k grow2 (fun j e => by injection e with e; rw [← e]; exact (own_at own1k).1)
            refine hK.out _ _ trivial (fun _ => ?_)
            clear hK K
            try simp only [Act.put, List.setIfInBounds_toArray, List.set_cons_zero, List.set_cons_succ]
            refine wpAnyH_ready (rs := [11]) (by kernel_rfl) (by simp) ?_
            refine (AllReadyH.cons (o := { dst := some 54, op := Go.Op.call { callee := Go.Callee.builtin Go.Builtin.append, args := #[Go.Operand.tmp 50, Go.Operand.tmp 53], argTypes := #[52, 52] }, type := 52, pos := "l05_space.go:111", after := #[{ on := 7, ground := Go.Ground.data }, { on := 10, ground := Go.Ground.data }, { on := 7, ground := Go.Ground.chain }], guard := none }) rfl (fun K hK => ?_) AllReadyH.nil)
            refine app_ints _ _ rfl U.heap.size g2 (lo + 1) cap2 (([] ++ ls.take lo) ++ [(i : Int)]) rfl own2 _ (i - lo) _ (ls.drop lo) rfl _ (Classical.choose_spec (HIX.out w2 hBU2 _ (by intro h; first | rfl | (rw [if_neg (by omega)])))) HDl.out (i + 1) (by omega) (by omega) hBU2.out.size ?_
            intro g3 cap3 w3 own3 grow3
            have HB3 : Hid (Bel w w3) := bel_step hBwU (bel_grow hBU2 grow3 (fun j e => by injection e with e; rw [← e]; exact (own_at own2).1))
            have HO3 : Hid (OwnI w.heap.size w3 (.slice (some ⟨g3, 0, none⟩) (i + 1) cap3) (lsO (rot (fun x => if x = i then i else o x) lo i (i + 1)) (i + 1))) := by rw [← HE.out]; exact own_base own3 hBwU.out.size
            clear own2 grow2 hBU2 own1k hBU1k hk1
            refine hK.out _ _ trivial (fun _ => ?_)
            clear hK K
            try simp only [Act.put, List.setIfInBounds_toArray, List.set_cons_zero, List.set_cons_succ]
            refine wpAnyH_take (S := fun _ => True) (i := 12) (oi := { dst := some 3, op := Go.Op.assign (Go.Operand.tmp 54), type := 52, pos := "l05_space.go:111", after := #[{ on := 11, ground := Go.Ground.data }, { on := 11, ground := Go.Ground.chain }, { on := 0, ground := Go.Ground.phase }, { on := 1, ground := Go.Ground.phase }, { on := 2, ground := Go.Ground.phase }, { on := 3, ground := Go.Ground.phase }, { on := 4, ground := Go.Ground.phase }, { on := 5, ground := Go.Ground.phase }, { on := 6, ground := Go.Ground.phase }, { on := 7, ground := Go.Ground.phase }, { on := 8, ground := Go.Ground.phase }, { on := 9, ground := Go.Ground.phase }, { on := 10, ground := Go.Ground.phase }, { on := 11, ground := Go.Ground.phase }], guard := none }) (v := ?vz10) rfl (by kernel_rfl) (by kernel_rfl) (by kernel_rfl) (fun _ _ _ h => h) (Or.inl ⟨by rfl, ?hz10⟩) trivial ?rz10
            case hz10 => (intro w hSw; (try dsimp only at hSw); go_simp; try with_reducible rfl)
            try simp only [Act.put, List.setIfInBounds_toArray, List.set_cons_zero, List.set_cons_succ]
            refine wpAnyH_done (by kernel_rfl) ?_ _
            refine NoPanic.normal ?_
            clear own3 grow3
            go_wp2
            go_roundw
            case rel => exact ⟨i + 1, g3, cap3, _, by omega, by go_num, rfl, HO3.out, HN.out, HB3.out⟩
            case measure => simp [intOf]; omega
    · obtain rfl : i = n := by omega
      have hlt' : ¬ (i : Int) < (i : Int) := by omega
      go_wp2
      go_ret
      exact ⟨o, _, rfl, hO, HB.out, hBw⟩
end Go.Proofs.YtgniopdjplppdaaDoor

