/-
  A room is put into the grid: the program's contract.
-/
import Derived.Test.YtpbpnkklnbmkeaaGrdI
import Derived.Deep.RegionLaw
namespace Go.Proofs.Ytpbpnkklnbmkeaa
open Go.RowKit Go.Maps

theorem GridM.marks {N0 G M : Nat} {X : Nat → Prop} {w w' : World} {rs : List RmD} {n : Nat} {T : List SqD} {q : GD} (h : GridM N0 G M X w rs n T q) (hg : w.grownBy w' q.va.ownBlock) {bl : List Bool} (ho : w'.ownsRow N0 4 1 q.va rs.length (bl.map Value.bool)) : GridM N0 G M X w' rs n T { q with bl := bl } :=
  ⟨h.box.kept hg (fun e => (h.da G e.symm).1 rfl), h.map.same (hg.block M h.map.lt (fun e => own_ne_map h.asked h.map M e.symm rfl)), h.rooms.kept rmF hg h.d1, ho,
    fun c r => (h.rows c r).kept hg ((h.d2 c r).imp id (fun h => h.2)), h.len, h.mem, h.all, h.new, ⟨h.lo.1, h.lo.2.1, h.lo.2.2.1, Nat.le_trans h.lo.2.2.2 hg.size⟩, fun x hx => ⟨(h.sh x hx).1, (h.sh x hx).2.1, Nat.lt_of_lt_of_le (h.sh x hx).2.2 hg.size⟩, h.d1, h.d2, h.d3, h.dr, h.da, h.dv⟩
theorem Frm.below {N0 : Nat} {X : Nat → Prop} {w w' : World} (h : Frm N0 X w w') (hl : N0 ≤ w.heap.size) : Below N0 w w' := ⟨h.os, h.tape, h.output, h.size, fun k hk => h.block k (by omega) (.inl hk)⟩
structure PutOut (N0 G M : Nat) (w : World) (rs : List RmD) (p : RmD) (n : Nat) (e : Ending) (w' : World) : Prop where
  out : ∃ (q : GD) (n' : Nat), e = .returned (.bool (frB rs p)) ∧ Grid N0 G M (fun _ => False) w' (if frB rs p = true then rs ++ [p] else rs) n' q ∧ n' ≤ n + (rmS p).length ∧ Below N0 w w'

theorem cells_of {v : World} {G B : Nat} {a b c x y : Value} (h : Blk v G [a, b, c]) (k : Blk v B [x, y]) : v.cell? ⟨G, 1, none⟩ = some b ∧ v.cell? ⟨G, 0, none⟩ = some a ∧ v.cell? ⟨B, 0, none⟩ = some x ∧ v.cell? ⟨B, 1, none⟩ = some y :=
  ⟨h.cell 1 (by simp), h.cell 0 (by simp), k.cell 0 (by simp), k.cell 1 (by simp)⟩
theorem news_one {w : World} {B : Nat} {x : Value} (h : Blk w B [x]) : ∀ j u, [x][j]? = some u → w.cell? ((⟨B, 0, none⟩ : Addr).add j) = some u := by
  intro j u hj
  match j, hj with
  | 0, hj => simp at hj; subst hj; exact h.cell 0 (by simp)

set_option maxRecDepth 100000 in
set_option maxHeartbeats 4000000 in
theorem put_any (N0 G M : Nat) (rs : List RmD) (n : Nat) (q : GD) (p : RmD) (w : World) (hG : Grid N0 G M (fun _ => False) w rs n q) (hp : RmP p) (hn : n + (rmS p).length ≤ 1048576) (hrs : rs.length ≤ 1000000) :
    Calls Try.prog 34 #[.pointer (some ⟨G, 0, none⟩), rmV p] w fun e w' => PutOut N0 G M w rs p n e w' := by
  obtain ⟨i0, hi0, hz0, hz1, hz2⟩ := info_parts infoIn
  obtain ⟨i1, hi1, hy0, hy1, hy2⟩ := info_parts infoRm
  obtain ⟨i2, hi2, hx0, hx1, hx2⟩ := info_parts infoBl
  obtain ⟨b, Hb⟩ : ∃ b, Hid (b = w.alloc (.cells #[.int .i64 p.a, .int .i64 p.b, .int .i64 p.c, .int .i64 p.d] 70)) := ⟨_, (rfl : w.alloc (.cells #[.int .i64 p.a, .int .i64 p.b, .int .i64 p.c, .int .i64 p.d] 70) = _)⟩
  have hwb : Bel w b := by rw [Hb.out]; exact bel_alloc (Bel.refl _) _
  have Xb : Blk b w.heap.size [.int .i64 p.a, .int .i64 p.b, .int .i64 p.c, .int .i64 p.d] := by rw [Hb.out]; exact Blk.new w [.int .i64 p.a, .int .i64 p.b, .int .i64 p.c, .int .i64 p.d] _
  have hpp := hp
  obtain ⟨pa, pb, pc, pd, pac, pbd⟩ := hpp
  go_enter Try.func34, Try.ntmps34
  go_wp2_with fail
  rw [← Hb.out]
  refine (squaresOf_any p.a p.b p.c p.d b pa pb pc pd pac pbd).mono ?_
  rintro e w1 ho
  obtain ⟨sa, sc, cs, rfl, hT, hcs, hb1⟩ := ho.out
  have hw1 := bel_step hwb hb1
  have X1 := Xb.bel hb1
  have p0 : w1.cell? ⟨w.heap.size, 0, none⟩ = some (.int .i64 p.a) := X1.cell 0 (by simp)
  have p1 : w1.cell? ⟨w.heap.size, 1, none⟩ = some (.int .i64 p.b) := X1.cell 1 (by simp)
  have p2 : w1.cell? ⟨w.heap.size, 2, none⟩ = some (.int .i64 p.c) := X1.cell 2 (by simp)
  have p3 : w1.cell? ⟨w.heap.size, 3, none⟩ = some (.int .i64 p.d) := X1.cell 3 (by simp)
  have hl1 := X1.lt
  have hbs : w.heap.size < b.heap.size := Xb.lt
  have HcX : Hid (∀ x ∈ w.heap.size :: cs, w.heap.size ≤ x ∧ x < w1.heap.size) := fun x hx => by
    rcases List.mem_cons.1 hx with rfl | hx
    · exact ⟨Nat.le_refl _, hl1⟩
    · have := hcs x hx; have := hT.lt sqE x hx; omega
  have hM1 := hG.mid hw1 HcX.out
  have hG1 := hG.bel hw1
  have hva : ∀ x ∈ cs, q.va.ownBlock ≠ some x := fun x hx e => by have := (hG.asked.lt x e).2; have := hcs x hx; omega
  obtain ⟨L, HLe⟩ : ∃ L, Hid (L = rmS p) := ⟨_, (rfl : rmS p = _)⟩
  have HLs : Hid (sqs p.a p.b p.c p.d = L) := by rw [HLe.out]; exact rfl
  rw [HLs.out] at hT ⊢
  rw [← HLe.out] at hn
  have hN0 := hG.lo.2.2.2
  clear ho hG Xb hcs
  go_wp2_with fail
  refine (free_any N0 G M _ rs n q p sa _ sc L cs _ hG1 hp hT rfl (by omega) hva (by rw [HLe.out]; exact fun _ h => h) (by omega) (by omega)).mono ?_
  rintro e w2 ho
  obtain ⟨bl, rfl, ho2, hg2⟩ := ho.out
  have HM2 : Hid (GridM N0 G M (· ∈ w.heap.size :: cs) w2 rs n [] { q with bl := bl }) := hM1.marks hg2 ho2
  have HF2 : Hid (Frm N0 (· ∈ w.heap.size :: cs) w w2) := (Frm.bel hw1).trans (Frm.grow hg2 fun x hx => ⟨(hG1.asked.lt x hx).1, (hM1.da x hx).2⟩)
  have HG2 : Hid (Grid N0 G M (fun _ => False) w2 rs n { q with bl := bl }) := hG1.marks hg2 ho2
  have X2 := (Frm.grow (X := (· ∈ w.heap.size :: cs)) (N0 := N0) hg2 fun x hx => ⟨(hG1.asked.lt x hx).1, (hM1.da x hx).2⟩).blk X1 List.mem_cons_self
  have hT2 := hT.keptO sqE hg2 hva
  have hns : L.length ≤ 1048576 := by omega
  clear hM1 hG1 ho ho2 hg2 X1 p0 p1 p2 p3 hT
  rcases Bool.eq_false_or_eq_true (frB rs p) with hf | hf
  · rw [hf]
    have hnn := hn
    go_wp2
    go_loopw [17] (fun i wr => ∃ (k : Nat) (q' : GD), k ≤ L.length ∧ i = .int .i64 k ∧ GridM N0 G M (· ∈ w.heap.size :: cs) wr rs (n + k) (L.take k) q' ∧ q'.vr = q.vr ∧ q'.va = q.va ∧ Frm N0 (· ∈ w.heap.size :: cs) w2 wr) (fun i _ => L.length - (intOf i).toNat)
    case atStart => exact ⟨0, _, Nat.zero_le _, rfl, HM2.out, rfl, rfl, Frm.refl _ _ _⟩
    case round =>
      obtain ⟨k, q', hk, rfl, hM, hvr, hva', hF⟩ := hrel
      by_cases hlt : k < L.length
      · obtain ⟨bb, off, f, rfl, hbb, hx⟩ := (hF.sl sqE hT2 (fun x hx => List.mem_cons_of_mem _ hx)).out hlt
        obtain ⟨_, j0, j1, c0, c1⟩ := hx k hlt
        obtain ⟨s, Hs⟩ : ∃ s, Hid (s = L[k]) := ⟨_, (rfl : L[k] = _)⟩
        rw [← Hs.out] at c0 c1 j0 j1
        obtain ⟨U, HU⟩ : ∃ U, Hid (U = wr.alloc (.cells #[.int .i64 s.c, .int .i64 s.r] 101)) := ⟨_, (rfl : wr.alloc (.cells #[.int .i64 s.c, .int .i64 s.r] 101) = _)⟩
        have hbU : Bel wr U := by rw [HU.out]; exact bel_alloc (Bel.refl _) _
        have XU : Blk U wr.heap.size [.int .i64 s.c, .int .i64 s.r] := by rw [HU.out]; exact Blk.new wr [.int .i64 s.c, .int .i64 s.r] _
        obtain ⟨W, HW⟩ : ∃ W, Hid (W = (U.alloc (.cells #[.int .i64 (rs.length : Nat)] 3)).drew) := ⟨_, (rfl : (U.alloc (.cells #[.int .i64 (rs.length : Nat)] 3)).drew = _)⟩
        have hbW : Bel U W := by rw [HW.out]; exact (bel_alloc (Bel.refl U) _).drew
        have hMU := hM.bel hbU
        have hMW := hMU.bel hbW
        obtain ⟨st, W1, hrun, hgW1, hsW1, hoW1, hnext⟩ := hMW.step (by unfold maxLen; omega) s j0 j1
        obtain ⟨ia, ic, hV⟩ := own_shape hoW1
        obtain ⟨ra, rc, hvrs⟩ := own_shape hMU.rooms.own
        have hIl := hM.len s.c s.r
        have hVw : ∀ x, (q'.V s.c s.r).ownBlock = some x → x < wr.heap.size := fun x hx => ((hM.rows s.c s.r).lt x hx).2
        have hVG : some G ≠ (q'.V s.c s.r).ownBlock := fun e => (hM.dv s.c s.r G e.symm).1 rfl
        have hVs : some wr.heap.size ≠ (q'.V s.c s.r).ownBlock := fun e => by have := hVw _ e.symm; omega
        have hMw := hM.map.lt
        have hGM : some G ≠ some M := fun e => by injection e with e; exact hM.lo.2.2.1 e
        have hsM : some wr.heap.size ≠ some M := fun e => by injection e with e; omega
        have hUs : wr.heap.size < U.heap.size := XU.lt
        have hUM : some U.heap.size ≠ some M := fun e => by injection e with e; omega
        have XW : Blk W U.heap.size [.int .i64 (rs.length : Nat)] := by rw [HW.out]; exact (Blk.new U [.int .i64 (rs.length : Nat)] _).bel ((Bel.refl _).drew)
        have HN : Hid (∀ j u, [Value.int .i64 (rs.length : Nat)][j]? = some u → W1.cell? ((⟨U.heap.size, 0, none⟩ : Addr).add j) = some u) := news_one (XW.kept hgW1 hUM)
        have hB1 := hMW.box.kept hgW1 hGM
        have hQ1 := (XU.bel hbW).kept hgW1 hsM
        have HS0 := cells_of hMU.box XU
        have HSW := cells_of hMW.box (XU.bel hbW)
        have HS1 := cells_of hB1 hQ1
        have hlo1 : N0 ≤ W1.heap.size := by rw [hsW1]; exact hMW.lo.2.2.2
        have hgl : G < U.heap.size := hMU.box.lt
        rw [hvrs] at HS0 HSW HS1 hB1
        rw [hV] at hrun hnext hVG hVs hoW1
        rw [HW.out] at hrun HSW
        have HNext : Hid (∀ (w6 : World) (v' : Value), w6.ownsRow N0 3 1 v' ((q'.I s.c s.r).length + 1) (intsN (q'.I s.c s.r) ++ [.int .i64 (rs.length : Nat)]) → W1.grownBy w6 (Value.slice ia (q'.I s.c s.r).length ic).ownBlock → (v'.ownBlock = (Value.slice ia (q'.I s.c s.r).length ic).ownBlock ∨ v'.ownBlock = some W1.heap.size) →
          ∃ W3, (Instr.entryStore 62 (.map (some M)) (.int .i64 ((st : Nat) : Int)) v').run Try.prog w6 = .ok () W3 ∧ w6.grownBy W3 (some M) ∧ Frm N0 (· ∈ w.heap.size :: cs) W W3 ∧ ∃ q'', GridM N0 G M (· ∈ w.heap.size :: cs) W3 rs (n + k + 1) (L.take k ++ [s]) q'' ∧ q''.vr = q'.vr ∧ q''.va = q'.va) := hnext
        have HB1 : Hid (Blk W1 G [.slice ra rs.length rc, .map (some M), q'.va]) := hB1
        have HQ1 : Hid (Blk W1 wr.heap.size [.int .i64 s.c, .int .i64 s.r]) := hQ1
        have HFW : Hid (Frm N0 (· ∈ w.heap.size :: cs) w2 W) := hF.trans (Frm.bel (bel_step hbU hbW))
        have hir : (rs.length : Int) ≤ 1048576 := by omega
        unfold sqV at hrun
        clear hnext hM hMU hMW hx XW hB1 hQ1 hgW1 hbU hbW hV hVw XU hF
        go_wp2
        rw [← HU.out]
        go_region_held3 (fun w' => w'.cell? ⟨G, 1, none⟩ = some (.map (some M)) ∧ w'.cell? ⟨G, 0, none⟩ = some (.slice ra rs.length rc) ∧ w'.cell? ⟨wr.heap.size, 0, none⟩ = some (.int .i64 s.c) ∧ w'.cell? ⟨wr.heap.size, 1, none⟩ = some (.int .i64 s.r))
          (first | exact HS0 | exact HSW | exact HS1 | exact HS6 | exact HS3)
          (first | (refine step_append_lies _ rfl _ _ _ rfl N0 3 i0 (.int .i64 0) 1 8 Try.underlying102 hi0 hz0 hz1 hz2 rfl (by decide) (.slice ia (q'.I s.c s.r).length ic) (q'.I s.c s.r).length (intsN (q'.I s.c s.r)) (by rfl) hoW1 ⟨U.heap.size, 0, none⟩ 1 1 [.int .i64 (rs.length : Nat)] (by rfl) (by rfl) HN.out (by simp [Value.oneCell']) (by omega) (by unfold maxLen; omega) (by omega) hlo1 (W1.heap.size) (by rfl) ?_; intro g cap w6 hown6 hgrow hat _; obtain ⟨W3, hES, hg3, hF3, q2, hM3, hv3, hva3⟩ := HNext.out w6 _ hown6 hgrow (hatF hat); have HS6 := cells_of (HB1.out.kept hgrow hVG) (HQ1.out.kept hgrow hVs); have HS3 := cells_of ((HB1.out.kept hgrow hVG).kept hg3 hGM) ((HQ1.out.kept hgrow hVs).kept hg3 hsM)))
        have HM3 : Hid (GridM N0 G M (· ∈ w.heap.size :: cs) W3 rs (n + (k + 1)) (L.take (k + 1)) q2) := by
          rw [List.take_succ_eq_append_getElem hlt, ← Hs.out]; exact hM3
        have HF3 : Hid (Frm N0 (· ∈ w.heap.size :: cs) w2 W3) := HFW.out.trans hF3
        clear hM3 hF3 hES hg3 hown6 hgrow hat HS6 HS3
        go_wp2
        go_roundw
        case rel => exact ⟨k + 1, q2, by omega, by go_num, HM3.out, hv3.trans hvr, hva3.trans hva', HF3.out⟩
        case measure => simp [intOf]; omega
      · have e : k = L.length := by omega
        subst e
        have HM : Hid (GridM N0 G M (· ∈ w.heap.size :: cs) wr rs (n + L.length) L q') := by rw [List.take_length] at hM; exact hM
        have Xr := hF.blk X2 List.mem_cons_self
        have p0 : wr.cell? ⟨w.heap.size, 0, none⟩ = some (.int .i64 p.a) := Xr.cell 0 (by simp)
        have p1 : wr.cell? ⟨w.heap.size, 1, none⟩ = some (.int .i64 p.b) := Xr.cell 1 (by simp)
        have p2 : wr.cell? ⟨w.heap.size, 2, none⟩ = some (.int .i64 p.c) := Xr.cell 2 (by simp)
        have p3 : wr.cell? ⟨w.heap.size, 3, none⟩ = some (.int .i64 p.d) := Xr.cell 3 (by simp)
        have hwl := Xr.lt
        have hgl : G < wr.heap.size := hM.box.lt
        obtain ⟨ra, rc, hvrs⟩ := own_shape hM.rooms.own
        have hGr : some G ≠ q'.vr.ownBlock := fun e => (hM.dr G e.symm).1 rfl
        have g0 : wr.cell? ⟨G, 0, none⟩ = some q'.vr := hM.box.cell 0 (by simp)
        have hown : (wr.alloc (.cells #[.int .i64 p.a, .int .i64 p.b, .int .i64 p.c, .int .i64 p.d] 70)).drew.ownsRow N0 70 4 q'.vr rs.length (recs q'.R rs.length) := (hM.rooms.own.alloc _).drew
        have hbR : Bel wr (wr.alloc (.cells #[.int .i64 p.a, .int .i64 p.b, .int .i64 p.c, .int .i64 p.d] 70)).drew := (bel_alloc (Bel.refl wr) _).drew
        have HBx : Hid (Blk (wr.alloc (.cells #[.int .i64 p.a, .int .i64 p.b, .int .i64 p.c, .int .i64 p.d] 70)).drew G [q'.vr, .map (some M), q'.va]) := hM.box.bel hbR
        have hlo : N0 ≤ wr.heap.size := hM.lo.2.2.2
        rw [hvrs] at g0 hown hGr
        have Hvrs : Hid (q'.vr = .slice ra rs.length rc) := hvrs
        clear hM Xr hvrs
        go_wp2
        go_region_law (first
          | (refine step_append_lies _ rfl _ _ _ rfl N0 70 i1 (.agg #[.int .i64 0, .int .i64 0, .int .i64 0, .int .i64 0]) 4 32 Try.underlying63 hi1 hy0 hy1 hy2 rfl (by decide) (.slice ra rs.length rc) rs.length (recs q'.R rs.length) (by rfl) hown ⟨wr.heap.size, 0, none⟩ 1 1 [.int .i64 p.a, .int .i64 p.b, .int .i64 p.c, .int .i64 p.d] (by rfl) (by rfl) (World.news_of_block (cs := #[.int .i64 p.a, .int .i64 p.b, .int .i64 p.c, .int .i64 p.d]) (t := 70) (fr := (0, 0)) (heap_alloc_new wr _)) (by simp [Value.oneCell']) (by omega) (by unfold maxLen; omega) (by omega) (by simp; omega) (wr.heap.size + 1) (by simp) ?_; intro g cap wB hownB hgrow hat _; have hBB := HBx.out.kept hgrow hGr; have y6 : wB.cell? ⟨G, 0, none⟩ = some q'.vr := hBB.cell 0 (by simp); have z6 := hBB.free 0))
        all_goals
          obtain ⟨q3, hN3, hv3, hva3, hF3⟩ := HM.out.room hp (by rw [HLe.out]; exact fun _ h => h) hbR (vr := .slice (some ⟨g, 0, none⟩) (rs.length + 1) cap) hownB (by rw [Hvrs.out]; exact hgrow) (by rw [Hvrs.out]; exact hatF (by simpa using hat))
          obtain ⟨wC, HC⟩ : ∃ W, Hid (W = wB.setCell ⟨G, 0, none⟩ (.slice (some ⟨g, 0, none⟩) (rs.length + 1) cap)) := ⟨_, (rfl : wB.setCell ⟨G, 0, none⟩ (.slice (some ⟨g, 0, none⟩) (rs.length + 1) cap) = _)⟩
          rw [← HC.out] at hN3 hF3
          obtain ⟨xa, xc, hvas⟩ := own_shape hN3.asked
          have g2 : wC.cell? ⟨G, 2, none⟩ = some q3.va := hN3.box.cell 2 (by simp)
          have hGa : some G ≠ q3.va.ownBlock := fun e => (hN3.da G e.symm).1 rfl
          have hgC : G < wC.heap.size := hN3.box.lt
          have hownC : (wC.alloc (.cells #[.bool false] 4)).ownsRow N0 4 1 q3.va rs.length (q3.bl.map Value.bool) := hN3.asked.alloc _
          have hbC : Bel wC (wC.alloc (.cells #[.bool false] 4)) := bel_alloc (Bel.refl _) _
          have HBc : Hid (Blk (wC.alloc (.cells #[.bool false] 4)) G [q3.vr, .map (some M), q3.va]) := hN3.box.bel hbC
          have hloC : N0 ≤ wC.heap.size := hN3.lo.2.2.2
          rw [hvas] at g2 hGa hownC
          have Hvas : Hid (q3.va = .slice xa rs.length xc) := hvas
          have HN3 : Hid (GridN N0 G M (· ∈ w.heap.size :: cs) wC (rs ++ [p]) rs.length (n + L.length) q3) := hN3
          have HF3 : Hid (Frm N0 (· ∈ w.heap.size :: cs) w wC) := HF2.out.trans (hF.trans hF3)
          clear hN3 hvas hF3 hownB hgrow hat hown hBB y6 z6
          rw [← HC.out]
          go_wp2_with (first
            | (at_builtin; refine wpList_append_lies _ rfl _ _ 64 rfl N0 4 i2 (.bool false) 1 1 Try.underlying64 hi2 hx0 hx1 hx2 rfl (by decide) _ _ _ rfl hownC ⟨wC.heap.size, 0, none⟩ 1 1 [.bool false] rfl rfl (cell_one_new _ _ _) (by simp [Value.oneCell']) (by decide) (by unfold maxLen; omega) (by omega) (by simp; omega) (wC.heap.size + 1) (by simp) ?_)
            | go_in)
          intro ge cape wE hownE hgrowE hatE _
          have hBE := HBc.out.kept hgrowE hGa
          have y7 : wE.cell? ⟨G, 2, none⟩ = some q3.va := hBE.cell 2 (by simp)
          have z7 := hBE.free 2
          obtain ⟨q4, hG4, hF4⟩ := HN3.out.mark (by simp) hbC (va := .slice (some ⟨ge, 0, none⟩) (rs.length + 1) cape) hownE (by rw [Hvas.out]; exact hgrowE) (by rw [Hvas.out]; exact hatF (by simpa using hatE))
          have HP : Hid (PutOut N0 G M w rs p n (.returned (.bool true)) (wE.setCell ⟨G, 2, none⟩ (.slice (some ⟨ge, 0, none⟩) (rs.length + 1) cape))) :=
            ⟨⟨q4, n + L.length, by rw [hf], by rw [if_pos hf]; exact hG4, by rw [HLe.out]; exact Nat.le_refl _, (HF3.out.trans hF4).below hN0⟩⟩
          clear hG4 hF4 hownE hgrowE hatE
          go_wp2
          exact bodyPost_ret (v := .bool true) (by simp [results, Try.results34, go_sem]) rfl HP.out
  · rw [hf]
    have HP : Hid (PutOut N0 G M w rs p n (.returned (.bool false)) w2) :=
      ⟨⟨_, n, by rw [hf], by rw [if_neg (by rw [hf]; decide)]; exact HG2.out, by omega, HF2.out.below hN0⟩⟩
    go_wp2
    exact bodyPost_ret (v := .bool false) (by simp [results, Try.results34, go_sem]) rfl HP.out
end Go.Proofs.Ytpbpnkklnbmkeaa
