/-
  Labels that are shown: the program's contract.
-/
import Derived.Test.YtfmeooedffcmbaaXA
import Derived.Test.YtfmeooedffcmbaaXB
import Derived.Test.YtfmeooedffcmbaaGrdY
namespace Go.Proofs.Ytfmeooedffcmbaa
open Go.RowKit Go.Maps

/-- Some block that the grid keeps clear of grows; what it keeps clear of then. -/
theorem Grid.grow {N0 G M : Nat} {X Y : Nat → Prop} {w w' : World} {rs : List RmD} {n : Nat} {q : GD} {row : Option Nat} (h : Grid N0 G M X w rs n q) (hg : w.grownBy w' row) (hr : ∀ x, row = some x → X x) (hY : ∀ x, Y x → X x ∨ w.heap.size ≤ x) : Grid N0 G M Y w' rs n q := by
  have ne : ∀ v : Value, (∀ x, v.ownBlock = some x → x ≠ G ∧ ¬ X x) → v.ownBlock = none ∨ v.ownBlock ≠ row := fun v hv => by
    cases hb : v.ownBlock with
    | none => exact .inl rfl
    | some x => exact .inr fun e => (hv x hb).2 (hr x e.symm)
  have hGr : some G ≠ row := fun e => (h.sh G (hr G e.symm)).1 rfl
  have hMr : some M ≠ row := fun e => (h.sh M (hr M e.symm)).2 rfl
  have hGl := h.box.lt
  have hMl := h.map.lt
  refine ⟨h.box.kept hg hGr, h.map.same (hg.block M h.map.lt hMr), h.rooms.kept rmF hg (ne _ h.dr), h.asked.kept hg (ne _ h.da), fun c r => (h.rows c r).kept hg (ne _ (h.dv c r)), h.len, h.mem, h.all, ⟨h.lo.1, h.lo.2.1, h.lo.2.2.1, Nat.le_trans h.lo.2.2.2 hg.size⟩, fun x hx => ?_, h.d1, h.d2, h.d3, fun x hx => ⟨(h.dr x hx).1, fun e => ?_⟩, fun x hx => ⟨(h.da x hx).1, fun e => ?_⟩, fun c r x hx => ⟨(h.dv c r x hx).1, fun e => ?_⟩⟩
  · rcases hY x hx with k | k
    · exact h.sh x k
    · omega
  · have := (h.rooms.own.lt x hx).2
    rcases hY x e with k | k
    · exact (h.dr x hx).2 k
    · omega
  · have := (h.asked.lt x hx).2
    rcases hY x e with k | k
    · exact (h.da x hx).2 k
    · omega
  · have := ((h.rows c r).lt x hx).2
    rcases hY x e with k | k
    · exact (h.dv c r x hx).2 k
    · omega
theorem Grid.weakX {N0 G M : Nat} {X Y : Nat → Prop} {w : World} {rs : List RmD} {n : Nat} {q : GD} (h : Grid N0 G M X w rs n q) (hY : ∀ x, Y x → X x ∨ w.heap.size ≤ x) : Grid N0 G M Y w rs n q :=
  h.grow (World.grownBy.refl w none) (fun _ e => nomatch e) hY
theorem Frm.own {N0 : Nat} {X : Nat → Prop} {w w' : World} {base : Nat} {e : TypeId} {k n : Nat} {v : Value} {xs : List Value} (h : Frm N0 X w w') (ho : w.ownsRow base e k v n xs) (hx : ∀ x, v.ownBlock = some x → X x) : w'.ownsRow base e k v n xs := by
  refine ⟨ho.1, ?_⟩
  rcases ho.2 with hn | ⟨g, cap, cur, rfl, hb, hg, rest⟩
  · exact .inl hn
  · refine .inr ⟨g, cap, cur, rfl, hb, ?_, rest⟩
    rw [h.block g (Array.getElem?_eq_some_iff.1 hg).1 (.inr (hx g rfl))]
    exact hg
theorem intsV_map (s : List LblD) : intsV (s.map (·.id)) = s.map fun d => Value.int .i64 d.id := by simp [intsV]
/-- What is kept beside the grid. -/
def XB (bs : List Nat) (v : Value) : Nat → Prop := fun x => x ∈ bs ∨ v.ownBlock = some x
set_option maxRecDepth 100000 in
set_option maxHeartbeats 4000000 in
theorem place_any (a : Option Addr) (n c : Nat) (l : List LblD) (bs : List Nat) (ai : Option Addr) (ni ci : Nat) (bf : List Int) (bi : List Nat) (w : World) (hT : LblL w a l bs) (hn : l.length = n) (hm : n ≤ 1048576) (hI : Ints w ai bf bi) (hni : bf.length = ni) (hmi : ni ≤ 1048576) :
    Calls Try.prog 23 #[.slice a n c, .slice ai ni ci] w fun e w' => ∃ a' c' bs', e = .returned (.slice a' (plQ l bf).length c') ∧ Ints w' a' (plQ l bf) bs' ∧ Fresh w w' bs' ∧ Bel w w' := by
  obtain ⟨i2, hi2, hx0, hx1, hx2⟩ := info_parts infoI
  have hmm := @run_makeMap Try.prog
  have Hn : Hid (l.length = n) := hn
  have Hni : Hid (bf.length = ni) := hni
  go_enter Try.func23, Try.ntmps23
  go_wp2_with fail
  refine (labelsOk_any a n c l bs _ hT hn hm).mono ?_
  rintro e w1 ⟨rfl, hb1⟩
  rcases Bool.eq_false_or_eq_true (bP (lblsP l)) with hp | hp
  rotate_left
  · have HQ : Hid (plQ l bf = []) := plQ_no hp
    rw [hp]
    go_wp2
    go_ret
    rw [HQ.out]
    exact ⟨none, 0, [], rfl, Sl.nil, ⟨List.nodup_nil, (fun _ h => nomatch h), (fun _ h => nomatch h)⟩, hb1⟩
  rw [hp]
  by_cases h5 : ni ≤ 500
  rotate_left
  · have HQ : Hid (plQ l bf = []) := plQ_many (by rw [hni]; exact h5)
    have h5' : decide (((500 : Int)) < (ni : Int)) = true := decide_eq_true (by omega)
    go_wp2
    go_ret
    rw [HQ.out]
    exact ⟨none, 0, [], rfl, Sl.nil, ⟨List.nodup_nil, (fun _ h => nomatch h), (fun _ h => nomatch h)⟩, hb1⟩
  have HP : Hid (lblsP l) := bP_out hp
  have HQ : Hid (plQ l bf = ascI ((plTo [] (ordQ bf l)).map (·.id))) := plQ_yes hp (by rw [hni]; exact h5)
  obtain ⟨W, HW⟩ : ∃ W, Hid (W = (w1.alloc (.map #[] 0)).alloc (.cells #[.slice none 0 0, .map (some w1.heap.size), .slice none 0 0] 99)) := ⟨_, (rfl : (w1.alloc (.map #[] 0)).alloc (.cells #[.slice none 0 0, .map (some w1.heap.size), .slice none 0 0] 99) = _)⟩
  have hG := Grid.fresh w1
  rw [← HW.out] at hG
  have hbW : Bel w1 W := by rw [HW.out]; exact bel_alloc (bel_alloc (Bel.refl _) _) _
  have hBW := bel_step hb1 hbW
  have HGW : Hid (Grid w1.heap.size (w1.heap.size + 1) w1.heap.size (fun _ => False) W [] 0 ⟨.slice none 0 0, .slice none 0 0, fun _ _ => .slice none 0 0, fun _ => List.replicate 4 (.bool false), fun _ _ => [], []⟩) := hG
  have hTW := hT.bel lblE hBW
  have hIW := hI.bel intE hBW
  clear hn hni hp hT hI hG
  go_upto_region 4 with fail
  rw [← HW.out]
  go_wp2_with fail
  refine (inTurn_any a n c l bs ai ni ci bf bi _ hTW Hn.out hIW Hni.out hmi HP.out).mono ?_
  rintro e w2 ⟨a2, c2, bs2, rfl, T2, hlo2, hb2⟩
  have hB2 := bel_step hBW hb2
  obtain ⟨o, Ho⟩ : ∃ o, Hid (ordQ bf l = o) := ⟨_, (rfl : ordQ bf l = _)⟩
  have HOm : Hid (∀ d ∈ o, lblK d = true) := fun d hd => lblsP_mem HP.out ((ordQ_perm bf l).mem_iff.1 (by rw [Ho.out]; exact hd))
  have hol : o.length = n := by rw [← Ho.out, (ordQ_perm bf l).length_eq, Hn.out]
  have hn5 : n ≤ 500 := by rw [← Hn.out]; exact HP.out.1
  have HOl : Hid (o.length = n) := hol
  rw [Ho.out] at T2 HQ
  have hN0 := HGW.out.lo.2.2.2
  have HG2 : Hid (Grid w1.heap.size (w1.heap.size + 1) w1.heap.size (XB bs2 (.slice none 0 0)) w2 [] 0 ⟨.slice none 0 0, .slice none 0 0, fun _ _ => .slice none 0 0, fun _ => List.replicate 4 (.bool false), fun _ _ => [], []⟩) :=
    (HGW.out.weakX (Y := XB bs2 (.slice none 0 0)) (fun x (hx : x ∈ bs2 ∨ (Value.slice none 0 0).ownBlock = some x) => Or.elim hx (fun h => .inr (hlo2 x h)) (fun h => nomatch h))).bel hb2
  have hT2l := T2.lt lblE
  have hw2 : w1.heap.size ≤ w2.heap.size := Nat.le_trans hbW.out.size hb2.out.size
  clear hTW hIW HGW HW hbW hBW hmm hlo2
  go_wp2
  go_loopw [6, 23] (fun v i wr => ∃ (k : Nat) (s : List LblD) (q : GD) (n' : Nat) (va : Option Addr) (vc : Nat), k ≤ n ∧ i = .int .i64 k ∧ v = .slice va s.length vc ∧ OwnI w2.heap.size wr v (s.map (·.id)) ∧ Grid w1.heap.size (w1.heap.size + 1) w1.heap.size (XB bs2 v) wr (s.map rmOf) n' q ∧ n' ≤ 4 * k ∧ s.length ≤ k ∧ (∀ d ∈ s, lblK d = true) ∧ plTo [] o = plTo s (o.drop k) ∧ LblL wr a2 o bs2 ∧ Below w1.heap.size w2 wr) (fun _ i _ => n - (intOf i).toNat)
  case atStart => exact ⟨0, [], _, 0, none, 0, Nat.zero_le _, rfl, rfl, World.ownsRow_nil _ _ _ _, HG2.out, by omega, Nat.le_refl _, (fun _ h => nomatch h), by simp, T2, Below.refl _ _⟩
  case round =>
    clear T2 HG2
    obtain ⟨k, s, q, n', va, vc, hk, rfl, rfl, hO, hGr, hn', hsl, hsK, hsp, hTr, hBr⟩ := hrel
    have HG : Hid (Grid w1.heap.size (w1.heap.size + 1) w1.heap.size (XB bs2 (.slice va s.length vc)) wr (s.map rmOf) n' q) := hGr
    have HO : Hid (OwnI w2.heap.size wr (.slice va s.length vc) (s.map (·.id))) := hO
    have Hsp : Hid (plTo [] o = plTo s (o.drop k)) := hsp
    have HsK : Hid (∀ d ∈ s, lblK d = true) := hsK
    clear hGr hO hsp hsK
    by_cases hlt : k < n
    · have hkl : k < o.length := by rw [HOl.out]; exact hlt
      obtain ⟨bb, off, f, rfl, hbb, hx⟩ := hTr.out hkl
      obtain ⟨_, j0, j1, j2, j3, j4, j5, c0, c1, c2', c3, c4, c5⟩ := hx k hkl
      have hkd := HOm.out o[k] (List.getElem_mem hkl)
      have hst := plTo_step (s := s) hkl
      obtain ⟨d, Hd⟩ : ∃ d, Hid (d = o[k]) := ⟨_, (rfl : o[k] = _)⟩
      rw [← Hd.out] at c0 c1 c2' c3 c4 c5 hkd hst j0
      have Hst : Hid (plTo s (o.drop k) = if frB (s.map rmOf) (rmOf d) = true then plTo (s ++ [d]) (o.drop (k + 1)) else plTo s (o.drop (k + 1))) := hst
      obtain ⟨U, HU⟩ : ∃ U, Hid (U = wr.alloc (.cells #[.int .i64 d.id, .int .i64 d.x, .int .i64 d.y, .int .i64 d.wd, .int .i64 d.ht, .int .i64 d.rk] 90)) := ⟨_, (rfl : wr.alloc (.cells #[.int .i64 d.id, .int .i64 d.x, .int .i64 d.y, .int .i64 d.wd, .int .i64 d.ht, .int .i64 d.rk] 90) = _)⟩
      have hbU : Bel wr U := by rw [HU.out]; exact bel_alloc (Bel.refl _) _
      have XU : Blk U wr.heap.size [.int .i64 d.id, .int .i64 d.x, .int .i64 d.y, .int .i64 d.wd, .int .i64 d.ht, .int .i64 d.rk] := by rw [HU.out]; exact Blk.new wr [.int .i64 d.id, .int .i64 d.x, .int .i64 d.y, .int .i64 d.wd, .int .i64 d.ht, .int .i64 d.rk] _
      have u0 : U.cell? ⟨wr.heap.size, 0, none⟩ = some (.int .i64 d.id) := XU.cell 0 (by simp)
      have u1 : U.cell? ⟨wr.heap.size, 1, none⟩ = some (.int .i64 d.x) := XU.cell 1 (by simp)
      have u2 : U.cell? ⟨wr.heap.size, 2, none⟩ = some (.int .i64 d.y) := XU.cell 2 (by simp)
      have u3 : U.cell? ⟨wr.heap.size, 3, none⟩ = some (.int .i64 d.wd) := XU.cell 3 (by simp)
      have u4 : U.cell? ⟨wr.heap.size, 4, none⟩ = some (.int .i64 d.ht) := XU.cell 4 (by simp)
      have u5 : U.cell? ⟨wr.heap.size, 5, none⟩ = some (.int .i64 d.rk) := XU.cell 5 (by simp)
      have ul := XU.lt
      have hrs : wr.heap.size < U.heap.size := XU.lt
      clear hx hst
      go_upto_region 8 with fail
      rw [← HU.out]
      go_wp2_with fail
      refine (room_any d _ hkd).mono ?_
      rintro e w3 ⟨rfl, hb3⟩
      have hU3 := bel_step hbU hb3
      have hN3 : w2.heap.size ≤ wr.heap.size := hBr.size
      have hlen := rmOf_len hkd
      have hvlt : ∀ x, (Value.slice va s.length vc).ownBlock = some x → w2.heap.size ≤ x ∧ x < wr.heap.size := fun x hx => HO.out.lt x hx
      have HXl : Hid (∀ x, (XB bs2 (.slice va s.length vc) x ∨ x = wr.heap.size) → x < w3.heap.size) := fun x hx => by
        have h1 := hU3.out.size
        have h2 := hb3.out.size
        rcases hx with (hx | hx) | hx
        · have := hT2l x hx; omega
        · have := (hvlt x hx).2; omega
        · omega
      have HG3 : Hid (Grid w1.heap.size (w1.heap.size + 1) w1.heap.size (fun x => XB bs2 (.slice va s.length vc) x ∨ x = wr.heap.size) w3 (s.map rmOf) n' q) :=
        (HG.out.weakX (Y := fun x => XB bs2 (.slice va s.length vc) x ∨ x = wr.heap.size) (fun x hx => Or.elim hx (fun h => .inl h) (fun h => .inr (Nat.le_of_eq h.symm)))).bel hU3
      clear u0 u1 u2 u3 u4 u5 ul
      go_wp2_with fail
      refine (putX_any w1.heap.size (w1.heap.size + 1) w1.heap.size _ (s.map rmOf) n' q (rmOf d) w3 HXl.out HG3.out (rmOf_P hkd) (by omega) (by rw [List.length_map]; omega)).mono ?_
      rintro e w4 ho
      obtain ⟨q4, n4, rfl, hG4, hn4, hF4⟩ := ho.out
      have HT4 : Hid (LblL w4 (some ⟨bb, off, none⟩) o bs2) := hF4.sl lblE (hTr.bel lblE hU3) (fun x hx => .inl (.inl hx))
      have HB4 : Hid (Below w1.heap.size w2 w4) := hBr.trans ((hU3.out.mono (Nat.le_trans hw2 hN3)).trans (hF4.below (Nat.le_trans hw2 (Nat.le_trans hN3 hU3.out.size))))
      have HO4 : Hid (OwnI w2.heap.size w4 (.slice va s.length vc) (s.map (·.id))) := by
        have h1 := World.ownsRow.kept HO.out (bel_none hU3) (Classical.em _)
        exact hF4.own h1 (fun x hx => .inl (.inr hx))
      have X4 := hF4.blk (XU.bel hb3) (.inr rfl)
      clear ho HG3 XU
      rcases Bool.eq_false_or_eq_true (frB (s.map rmOf) (rmOf d)) with hf | hf
      · rw [if_pos hf] at hG4
        have HG4 : Hid (Grid w1.heap.size (w1.heap.size + 1) w1.heap.size (fun x => XB bs2 (.slice va s.length vc) x ∨ x = wr.heap.size) w4 (s.map rmOf ++ [rmOf d]) n4 q4) := hG4
        have HS : Hid (plTo [] o = plTo (s ++ [d]) (o.drop (k + 1))) := by rw [Hsp.out, Hst.out, if_pos hf]; exact rfl
        have hsl' : (s.map (·.id)).length = s.length := List.length_map ..
        rw [hf]
        have x0 : w4.cell? ⟨wr.heap.size, 0, none⟩ = some (.int .i64 d.id) := X4.cell 0 (by simp)
        have xl := X4.lt
        have hown0 : w4.ownsRow w2.heap.size 2 1 (.slice va s.length vc) s.length (intsV (s.map (·.id))) := by
          have h := HO4.out
          unfold OwnI at h
          rw [hsl'] at h
          exact h
        have hownC := World.ownsRow.alloc hown0 (.cells #[.int .i64 d.id] 2)
        have hs4 : w2.heap.size ≤ w4.heap.size := HB4.out.size
        clear hG4 hown0 X4
        go_wp2_with (first
          | (at_builtin; refine wpList_append_lies _ rfl _ _ 45 rfl w2.heap.size 2 i2 (.int .i64 0) 1 8 Try.underlying45 hi2 hx0 hx1 hx2 rfl (by decide) _ _ _ rfl hownC ⟨w4.heap.size, 0, none⟩ 1 1 [.int .i64 d.id] rfl rfl (cell_one_new _ _ _) (by simp [Value.oneCell']) (by decide) (by unfold maxLen; omega) (by omega) (by simp; omega) (w4.heap.size + 1) (by simp) ?_)
          | go_in)
        intro g cap w5 hown5 hgrow5 hat _
        have hba : Bel w4 (w4.alloc (.cells #[.int .i64 d.id] 2)) := bel_alloc (Bel.refl _) _
        have hvx : ∀ x, (Value.slice (some ⟨g, 0, none⟩) (s.length + 1) cap).ownBlock = some x → (Value.slice va s.length vc).ownBlock = some x ∨ w4.heap.size + 1 ≤ x := fun x hx => by
          obtain rfl : g = x := by simpa [Value.ownBlock] using hx
          have hat' : (Value.slice va s.length vc).ownBlock = some g ∨ g = w4.heap.size + 1 := by simpa using hat
          rcases hat' with h | h
          · exact .inl h
          · exact .inr (by omega)
        have HG5 : Hid (Grid w1.heap.size (w1.heap.size + 1) w1.heap.size (XB bs2 (.slice (some ⟨g, 0, none⟩) (s.length + 1) cap)) w5 ((s ++ [d]).map rmOf) n4 q4) := by
          rw [List.map_append]
          have hs : (w4.alloc (.cells #[.int .i64 d.id] 2)).heap.size = w4.heap.size + 1 := by simp
          have hvx' := hvx
          refine (HG4.out.bel hba).grow (Y := XB bs2 (.slice (some ⟨g, 0, none⟩) (s.length + 1) cap)) hgrow5 (fun x hx => .inl (.inr hx)) (fun x (hx : x ∈ bs2 ∨ (Value.slice (some ⟨g, 0, none⟩) (s.length + 1) cap).ownBlock = some x) => ?_)
          rcases hx with hx | hx
          · exact .inl (.inl (.inl hx))
          · rcases hvx' x hx with h | h
            · exact .inl (.inl (.inr h))
            · exact .inr (by rw [hs]; exact h)
        have HO5 : Hid (OwnI w2.heap.size w5 (.slice (some ⟨g, 0, none⟩) (s.length + 1) cap) ((s ++ [d]).map (·.id))) := by
          rw [List.map_append]
          exact own_add (by rw [hsl']; exact hown5)
        have HT5 : Hid (LblL w5 (some ⟨bb, off, none⟩) o bs2) := (HT4.out.bel lblE hba).keptO lblE hgrow5 (fun x hx e => by have := (hvlt x e).1; have := hT2l x hx; omega)
        have HB5 : Hid (Below w1.heap.size w2 w5) := HB4.out.trans ((hba.out.mono (Nat.le_trans hw2 hs4)).trans (Below.grown (Below.refl _ _) hgrow5 (Nat.le_trans (Nat.le_trans hw2 hs4) hba.out.size) (fun x hx => Nat.le_trans hw2 (hvlt x hx).1)))
        clear hown5 hgrow5 hownC hat hvx x0 xl
        go_wp2
        go_roundw
        case rel =>
          refine ⟨k + 1, s ++ [d], q4, n4, some ⟨g, 0, none⟩, cap, by omega, by go_num, ?_, HO5.out, HG5.out, by omega, by simp; omega, ?_, HS.out, HT5.out, HB5.out⟩
          · simp
          · exact fun x hx => (List.mem_append.1 hx).elim (HsK.out x) (fun h => by rw [List.mem_singleton.1 h]; exact hkd)
        case measure => simp [intOf]; omega
      · have HS : Hid (plTo [] o = plTo s (o.drop (k + 1))) := by rw [Hsp.out, Hst.out, if_neg (by rw [hf]; exact Bool.false_ne_true)]; exact rfl
        rw [if_neg (by rw [hf]; exact Bool.false_ne_true)] at hG4
        have HG5 : Hid (Grid w1.heap.size (w1.heap.size + 1) w1.heap.size (XB bs2 (.slice va s.length vc)) w4 (s.map rmOf) n4 q4) := hG4.weakX (fun x hx => .inl (.inl hx))
        rw [hf]
        clear hG4 X4
        go_wp2
        go_roundw
        case rel => exact ⟨k + 1, s, q4, n4, va, vc, by omega, by go_num, rfl, HO4.out, HG5.out, by omega, by omega, HsK.out, HS.out, HT4.out, HB4.out⟩
        case measure => simp [intOf]; omega
    · have e : k = n := by omega
      subst e
      have HE : Hid (plTo [] o = s) := by rw [Hsp.out, List.drop_eq_nil_of_le (by rw [HOl.out]; exact Nat.le_refl _)]; exact rfl
      have HBr : Hid (Bel w wr) := hB2.out.trans (hBr.mono hb1.out.size)
      have hin : ∀ y ∈ s.map (·.id), In64 y := fun y hy => by
        obtain ⟨d, hd, rfl⟩ := List.mem_map.1 hy
        have := (lblK_out (HsK.out d hd)).1
        unfold In64
        omega
      have hlo : w.heap.size ≤ w2.heap.size := hB2.out.size
      have hvl : ∀ x, (Value.slice va s.length vc).ownBlock = some x → w.heap.size ≤ x := fun x hx => Nat.le_trans hlo (HO.out.lt x hx).1
      go_wp2_with fail
      refine (sortInt_any w2.heap.size (.slice va s.length vc) (s.map (·.id)) _ HO.out hin (by rw [List.length_map]; omega)).mono ?_
      rintro e w5 ⟨rfl, ⟨a5, c5, bs5, hv5, T5, M5⟩, hg5⟩
      have HB5 : Hid (Bel w w5) := bel_grow HBr.out hg5 hvl
      rw [HE.out] at HQ
      have hv5' := hv5
      rw [← HQ.out] at T5 hv5'
      injection hv5' with e1 e2 e3
      clear HG hin hvl
      go_wp2
      go_ret
      exact ⟨a5, c5, bs5, rfl, T5, M5.fresh hlo, HB5.out⟩
end Go.Proofs.Ytfmeooedffcmbaa
