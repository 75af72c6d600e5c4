/-
  A room is put into the grid, beside blocks that stay as they are: the program's contract.
  Labels that are shown: the program's contract.
  Which labels are shown, day by day: the program.
  The law FnLabels, walked: nothing is refuted.
-/
import Derived.Test.YtpbpnkklnbmkeaaXH
import Derived.Test.YtpbpnkklnbmkeaaXA
import Derived.Test.YtpbpnkklnbmkeaaXD
import Derived.Deep.AppendLies
import Derived.Test.YtpbpnkklnbmkeaaXF
import Derived.Test.YtpbpnkklnbmkeaaXE
import Derived.Test.YtpbpnkklnbmkeaaXB
import Derived.Test.YtpbpnkklnbmkeaaLblI
import Derived.Test.YtpbpnkklnbmkeaaTk
import Derived.Deep.CutBlock
namespace Go.Proofs.Ytpbpnkklnbmkeaa
open Go.RowKit Go.Maps

theorem Frm.weak {N0 : Nat} {X Y : Nat → Prop} {w w' : World} (h : Frm N0 X w w') (hY : ∀ x, Y x → X x) : Frm N0 Y w w' := ⟨h.os, h.tape, h.output, h.size, fun k hk hn => h.block k hk (hn.imp id (hY k))⟩
structure PutX (N0 G M : Nat) (X : Nat → Prop) (w : World) (rs : List RmD) (p : RmD) (n : Nat) (e : Ending) (w' : World) : Prop where
  out : ∃ (q : GD) (n' : Nat), e = .returned (.bool (frB rs p)) ∧ Grid N0 G M X w' (if frB rs p = true then rs ++ [p] else rs) n' q ∧ n' ≤ n + (rmS p).length ∧ Frm N0 X w w'
section
variable {N0 G M : Nat} {X : Nat → Prop} {w w' wa wb : World} {rs : List RmD} {m n : Nat} {T : List SqD} {q : GD}
theorem Grid.midX (h : Grid N0 G M X w rs n q) (hb : Bel w w') (hX : ∀ x, X x → x < w.heap.size) {cs : List Nat} (hc : ∀ x ∈ cs, w.heap.size ≤ x ∧ x < w'.heap.size) : GridM N0 G M (fun x => X x ∨ x ∈ cs) w' rs n [] q := by
  have h' := h.bel hb
  have hM := h.map.lt
  have hG := h.box.lt
  have hs := hb.out.size
  refine ⟨h'.box, h'.map, h'.rooms, h'.asked, h'.rows, h.len, fun c r i hi => Nat.lt_succ_of_lt (h.mem c r i hi), h.all, (fun _ hs => nomatch hs), h'.lo, fun x hx => ?_, h.d1, h.d2, h.d3, fun x hx => ⟨(h.dr x hx).1, fun e => ?_⟩, fun x hx => ⟨(h.da x hx).1, fun e => ?_⟩, fun c r x hx => ⟨(h.dv c r x hx).1, fun e => ?_⟩⟩
  · rcases hx with hx | hx
    · exact ⟨(h.sh x hx).1, (h.sh x hx).2, Nat.lt_of_lt_of_le (hX x hx) hs⟩
    · have := hc x hx
      omega
  · rcases e with e | e
    · exact (h.dr x hx).2 e
    · have := (h.rooms.own.lt x hx).2
      have := (hc x e).1
      omega
  · rcases e with e | e
    · exact (h.da x hx).2 e
    · have := (h.asked.lt x hx).2
      have := (hc x e).1
      omega
  · rcases e with e | e
    · exact (h.dv c r x hx).2 e
    · have := ((h.rows c r).lt x hx).2
      have := (hc x e).1
      omega
theorem GridN.markY {Y : Nat → Prop} (hY : ∀ x, Y x → X x) (h : GridN N0 G M X w rs m n q) (hm : m + 1 = rs.length) (hb : Bel w wa) {va : Value} (ho : wb.ownsRow N0 4 1 va (m + 1) (q.bl.map Value.bool ++ [.bool false])) (hg : wa.grownBy wb q.va.ownBlock) (hat : va.ownBlock = q.va.ownBlock ∨ va.ownBlock = some wa.heap.size) :
    ∃ q', Grid N0 G M Y (wb.setCell ⟨G, 2, none⟩ va) rs n q' ∧ Frm N0 X w (wb.setCell ⟨G, 2, none⟩ va) := by
  have ha := h.bel hb
  have hG0 := setCell_grown wb G 2 va
  have hv1 : ∀ x, va.ownBlock = some x → q.va.ownBlock = some x ∨ x = wa.heap.size := fun x hx => by
    rcases hat with e | e
    · exact .inl (by rw [← e]; exact hx)
    · rw [hx] at e; injection e with e; exact .inr e
  have hGr : some G ≠ q.va.ownBlock := fun e => (h.da G e.symm).1 rfl
  have hMr : some M ≠ q.va.ownBlock := fun e => own_ne_map h.asked h.map M e.symm rfl
  have hMG : some M ≠ some G := fun e => by injection e with e; exact h.lo.2.2.1 e.symm
  have hsz : (wb.setCell ⟨G, 2, none⟩ va).heap.size = wb.heap.size := by simp
  have hlt : ∀ {v : Value} {e : TypeId} {k m : Nat} {xs : List Value}, wa.ownsRow N0 e k v m xs → v.ownBlock ≠ some wa.heap.size := fun ho e => by have := (ho.lt _ e).2; omega
  have nG : ∀ v : Value, (∀ x, v.ownBlock = some x → x ≠ G ∧ ¬ X x) → v.ownBlock = none ∨ v.ownBlock ≠ some G := fun v hv => .inr fun e => (hv G e).1 rfl
  have hda' : ∀ x, va.ownBlock = some x → x ≠ G ∧ ¬ X x := fun x hx => by
    rcases hv1 x hx with e | e
    · exact h.da x e
    · subst e
      exact ⟨fun e => by have := ha.box.lt; omega, fun e => by have := (ha.sh _ e).2.2; omega⟩
  refine ⟨{ q with va := va, bl := q.bl ++ [false] }, ⟨?_, ?_, (ha.rooms.kept rmF hg h.d1).kept rmF hG0 (nG _ h.dr), ?_, ?_, h.len, h.mem, h.all, ⟨h.lo.1, h.lo.2.1, h.lo.2.2.1, by rw [hsz]; exact Nat.le_trans ha.lo.2.2.2 hg.size⟩, fun x hx => ⟨(h.sh x (hY x hx)).1, (h.sh x (hY x hx)).2.1⟩, ?_, ?_, h.d3, fun x hx => ⟨(h.dr x hx).1, fun e => (h.dr x hx).2 (hY x e)⟩, fun x hx => ⟨(hda' x hx).1, fun e => (hda' x hx).2 (hY x e)⟩, fun c r x hx => ⟨(h.dv c r x hx).1, fun e => (h.dv c r x hx).2 (hY x e)⟩⟩, ?_⟩
  · exact (ha.box.kept hg hGr).set 2 va (by simp)
  · exact (ha.map.same (hg.block M ha.map.lt hMr)).same (hG0.block M (Nat.lt_of_lt_of_le ha.map.lt hg.size) hMG)
  · have e : (q.bl ++ [false]).map Value.bool = q.bl.map Value.bool ++ [.bool false] := by simp
    show (wb.setCell ⟨G, 2, none⟩ va).ownsRow N0 4 1 va rs.length ((q.bl ++ [false]).map Value.bool)
    rw [e, ← hm]
    exact ho.kept hG0 (nG _ hda')
  · exact fun c r => ((ha.rows c r).kept hg ((h.d2 c r).imp id (fun e => e.2))).kept hG0 (nG _ (h.dv c r))
  · show q.vr.ownBlock = none ∨ q.vr.ownBlock ≠ va.ownBlock
    rcases hat with e | e
    · rw [e]; exact h.d1
    · rw [e]; exact .inr (hlt ha.rooms.own)
  · intro c r
    show (q.V c r).ownBlock = none ∨ ((q.V c r).ownBlock ≠ q.vr.ownBlock ∧ (q.V c r).ownBlock ≠ va.ownBlock)
    rcases h.d2 c r with e | e
    · exact .inl e
    · refine .inr ⟨e.1, ?_⟩
      rcases hat with k | k
      · rw [k]; exact e.2
      · rw [k]; exact hlt (ha.rows c r)
  · exact (Frm.bel hb).trans ((Frm.grow hg fun x hx => ⟨(h.asked.lt x hx).1, (h.da x hx).2⟩).trans (Frm.grow hG0 fun x hx => by injection hx with hx; subst hx; exact ⟨h.lo.1, fun e => (h.sh _ e).1 rfl⟩))
end
set_option maxRecDepth 100000 in
set_option maxHeartbeats 4000000 in
theorem putX_any (N0 G M : Nat) (X : Nat → Prop) (rs : List RmD) (n : Nat) (q : GD) (p : RmD) (w : World) (hXl : ∀ x, X x → x < w.heap.size) (hG : Grid N0 G M X w rs n q) (hp : RmP p) (hn : n + (rmS p).length ≤ 1048576) (hrs : rs.length ≤ 1000000) :
    Calls Try.prog 34 #[.pointer (some ⟨G, 0, none⟩), rmV p] w fun e w' => PutX N0 G M X w rs p n e w' := by
  obtain ⟨i0, hi0, hz0, hz1, hz2⟩ := info_parts infoIn
  obtain ⟨i1, hi1, hy0, hy1, hy2⟩ := info_parts infoRm
  obtain ⟨i2, hi2, hx0, hx1, hx2⟩ := info_parts infoBl
  obtain ⟨b, Hb⟩ : ∃ b, Hid (b = w.alloc (.cells #[.int .i64 p.a, .int .i64 p.b, .int .i64 p.c, .int .i64 p.d] 70)) := ⟨_, (rfl : w.alloc (.cells #[.int .i64 p.a, .int .i64 p.b, .int .i64 p.c, .int .i64 p.d] 70) = _)⟩
  have hwb : Bel w b := by rw [Hb.out]; exact bel_alloc (Bel.refl _) _
  have Xb : Blk b w.heap.size [.int .i64 p.a, .int .i64 p.b, .int .i64 p.c, .int .i64 p.d] := by rw [Hb.out]; exact Blk.new w [.int .i64 p.a, .int .i64 p.b, .int .i64 p.c, .int .i64 p.d] _
  have hpp := hp
  obtain ⟨pa, pb, pc, pd, pac, pbd⟩ := hpp
  go_enter Try.func34, Try.ntmps34
  go_wp2_with fail
  rw [← Hb.out]
  refine (squaresOf_any p.a p.b p.c p.d b pa pb pc pd pac pbd).mono ?_
  rintro e w1 ho
  obtain ⟨sa, sc, cs, rfl, hT, hcs, hb1⟩ := ho.out
  have hw1 := bel_step hwb hb1
  have X1 := Xb.bel hb1
  have p0 : w1.cell? ⟨w.heap.size, 0, none⟩ = some (.int .i64 p.a) := X1.cell 0 (by simp)
  have p1 : w1.cell? ⟨w.heap.size, 1, none⟩ = some (.int .i64 p.b) := X1.cell 1 (by simp)
  have p2 : w1.cell? ⟨w.heap.size, 2, none⟩ = some (.int .i64 p.c) := X1.cell 2 (by simp)
  have p3 : w1.cell? ⟨w.heap.size, 3, none⟩ = some (.int .i64 p.d) := X1.cell 3 (by simp)
  have hl1 := X1.lt
  have hbs : w.heap.size < b.heap.size := Xb.lt
  have HcX : Hid (∀ x ∈ w.heap.size :: cs, w.heap.size ≤ x ∧ x < w1.heap.size) := fun x hx => by
    rcases List.mem_cons.1 hx with rfl | hx
    · exact ⟨Nat.le_refl _, hl1⟩
    · have := hcs x hx; have := hT.lt sqE x hx; omega
  have hM1 := hG.midX hw1 hXl HcX.out
  have hG1 := hG.bel hw1
  have hva : ∀ x ∈ cs, q.va.ownBlock ≠ some x := fun x hx e => by have := (hG.asked.lt x e).2; have := hcs x hx; omega
  obtain ⟨L, HLe⟩ : ∃ L, Hid (L = rmS p) := ⟨_, (rfl : rmS p = _)⟩
  have HLs : Hid (sqs p.a p.b p.c p.d = L) := by rw [HLe.out]; exact rfl
  rw [HLs.out] at hT ⊢
  rw [← HLe.out] at hn
  have hN0 := hG.lo.2.2.2
  clear ho hG Xb hcs
  go_wp2_with fail
  refine (free_any N0 G M _ rs n q p sa _ sc L cs _ hG1 hp hT rfl (by omega) hva (by rw [HLe.out]; exact fun _ h => h) (by omega) (by omega)).mono ?_
  rintro e w2 ho
  obtain ⟨bl, rfl, ho2, hg2⟩ := ho.out
  have HM2 : Hid (GridM N0 G M (fun x => X x ∨ x ∈ w.heap.size :: cs) w2 rs n [] { q with bl := bl }) := hM1.marks hg2 ho2
  have HF2 : Hid (Frm N0 (fun x => X x ∨ x ∈ w.heap.size :: cs) w w2) := (Frm.bel hw1).trans (Frm.grow hg2 fun x hx => ⟨(hG1.asked.lt x hx).1, (hM1.da x hx).2⟩)
  have HG2 : Hid (Grid N0 G M X w2 rs n { q with bl := bl }) := hG1.marks hg2 ho2
  have X2 := (Frm.grow (X := (fun x => X x ∨ x ∈ w.heap.size :: cs)) (N0 := N0) hg2 fun x hx => ⟨(hG1.asked.lt x hx).1, (hM1.da x hx).2⟩).blk X1 (.inr List.mem_cons_self)
  have hT2 := hT.keptO sqE hg2 hva
  have hns : L.length ≤ 1048576 := by omega
  clear hM1 hG1 ho ho2 hg2 X1 p0 p1 p2 p3 hT
  rcases Bool.eq_false_or_eq_true (frB rs p) with hf | hf
  · rw [hf]
    have hnn := hn
    go_wp2
    go_loopw [17] (fun i wr => ∃ (k : Nat) (q' : GD), k ≤ L.length ∧ i = .int .i64 k ∧ GridM N0 G M (fun x => X x ∨ x ∈ w.heap.size :: cs) wr rs (n + k) (L.take k) q' ∧ q'.vr = q.vr ∧ q'.va = q.va ∧ Frm N0 (fun x => X x ∨ x ∈ w.heap.size :: cs) w2 wr) (fun i _ => L.length - (intOf i).toNat)
    case atStart => exact ⟨0, _, Nat.zero_le _, rfl, HM2.out, rfl, rfl, Frm.refl _ _ _⟩
    case round =>
      obtain ⟨k, q', hk, rfl, hM, hvr, hva', hF⟩ := hrel
      by_cases hlt : k < L.length
      · obtain ⟨bb, off, f, rfl, hbb, hx⟩ := (hF.sl sqE hT2 (fun x hx => .inr (List.mem_cons_of_mem _ hx))).out hlt
        obtain ⟨_, j0, j1, c0, c1⟩ := hx k hlt
        obtain ⟨s, Hs⟩ : ∃ s, Hid (s = L[k]) := ⟨_, (rfl : L[k] = _)⟩
        rw [← Hs.out] at c0 c1 j0 j1
        obtain ⟨U, HU⟩ : ∃ U, Hid (U = wr.alloc (.cells #[.int .i64 s.c, .int .i64 s.r] 101)) := ⟨_, (rfl : wr.alloc (.cells #[.int .i64 s.c, .int .i64 s.r] 101) = _)⟩
        have hbU : Bel wr U := by rw [HU.out]; exact bel_alloc (Bel.refl _) _
        have XU : Blk U wr.heap.size [.int .i64 s.c, .int .i64 s.r] := by rw [HU.out]; exact Blk.new wr [.int .i64 s.c, .int .i64 s.r] _
        obtain ⟨W, HW⟩ : ∃ W, Hid (W = (U.alloc (.cells #[.int .i64 (rs.length : Nat)] 3)).drew) := ⟨_, (rfl : (U.alloc (.cells #[.int .i64 (rs.length : Nat)] 3)).drew = _)⟩
        have hbW : Bel U W := by rw [HW.out]; exact (bel_alloc (Bel.refl U) _).drew
        have hMU := hM.bel hbU
        have hMW := hMU.bel hbW
        obtain ⟨st, W1, hrun, hgW1, hsW1, hoW1, hnext⟩ := hMW.step (by unfold maxLen; omega) s j0 j1
        obtain ⟨ia, ic, hV⟩ := own_shape hoW1
        obtain ⟨ra, rc, hvrs⟩ := own_shape hMU.rooms.own
        have hIl := hM.len s.c s.r
        have hVw : ∀ x, (q'.V s.c s.r).ownBlock = some x → x < wr.heap.size := fun x hx => ((hM.rows s.c s.r).lt x hx).2
        have hVG : some G ≠ (q'.V s.c s.r).ownBlock := fun e => (hM.dv s.c s.r G e.symm).1 rfl
        have hVs : some wr.heap.size ≠ (q'.V s.c s.r).ownBlock := fun e => by have := hVw _ e.symm; omega
        have hMw := hM.map.lt
        have hGM : some G ≠ some M := fun e => by injection e with e; exact hM.lo.2.2.1 e
        have hsM : some wr.heap.size ≠ some M := fun e => by injection e with e; omega
        have hUs : wr.heap.size < U.heap.size := XU.lt
        have hUM : some U.heap.size ≠ some M := fun e => by injection e with e; omega
        have XW : Blk W U.heap.size [.int .i64 (rs.length : Nat)] := by rw [HW.out]; exact (Blk.new U [.int .i64 (rs.length : Nat)] _).bel ((Bel.refl _).drew)
        have HN : Hid (∀ j u, [Value.int .i64 (rs.length : Nat)][j]? = some u → W1.cell? ((⟨U.heap.size, 0, none⟩ : Addr).add j) = some u) := news_one (XW.kept hgW1 hUM)
        have hB1 := hMW.box.kept hgW1 hGM
        have hQ1 := (XU.bel hbW).kept hgW1 hsM
        have HS0 := cells_of hMU.box XU
        have HSW := cells_of hMW.box (XU.bel hbW)
        have HS1 := cells_of hB1 hQ1
        have hlo1 : N0 ≤ W1.heap.size := by rw [hsW1]; exact hMW.lo.2.2.2
        have hgl : G < U.heap.size := hMU.box.lt
        rw [hvrs] at HS0 HSW HS1 hB1
        rw [hV] at hrun hnext hVG hVs hoW1
        rw [HW.out] at hrun HSW
        have HNext : Hid (∀ (w6 : World) (v' : Value), w6.ownsRow N0 3 1 v' ((q'.I s.c s.r).length + 1) (intsN (q'.I s.c s.r) ++ [.int .i64 (rs.length : Nat)]) → W1.grownBy w6 (Value.slice ia (q'.I s.c s.r).length ic).ownBlock → (v'.ownBlock = (Value.slice ia (q'.I s.c s.r).length ic).ownBlock ∨ v'.ownBlock = some W1.heap.size) →
          ∃ W3, (Instr.entryStore 62 (.map (some M)) (.int .i64 ((st : Nat) : Int)) v').run Try.prog w6 = .ok () W3 ∧ w6.grownBy W3 (some M) ∧ Frm N0 (fun x => X x ∨ x ∈ w.heap.size :: cs) W W3 ∧ ∃ q'', GridM N0 G M (fun x => X x ∨ x ∈ w.heap.size :: cs) W3 rs (n + k + 1) (L.take k ++ [s]) q'' ∧ q''.vr = q'.vr ∧ q''.va = q'.va) := hnext
        have HB1 : Hid (Blk W1 G [.slice ra rs.length rc, .map (some M), q'.va]) := hB1
        have HQ1 : Hid (Blk W1 wr.heap.size [.int .i64 s.c, .int .i64 s.r]) := hQ1
        have HFW : Hid (Frm N0 (fun x => X x ∨ x ∈ w.heap.size :: cs) w2 W) := hF.trans (Frm.bel (bel_step hbU hbW))
        have hir : (rs.length : Int) ≤ 1048576 := by omega
        unfold sqV at hrun
        clear hnext hM hMU hMW hx XW hB1 hQ1 hgW1 hbU hbW hV hVw XU hF
        go_wp2
        rw [← HU.out]
        go_region_held3 (fun w' => w'.cell? ⟨G, 1, none⟩ = some (.map (some M)) ∧ w'.cell? ⟨G, 0, none⟩ = some (.slice ra rs.length rc) ∧ w'.cell? ⟨wr.heap.size, 0, none⟩ = some (.int .i64 s.c) ∧ w'.cell? ⟨wr.heap.size, 1, none⟩ = some (.int .i64 s.r))
          (first | exact HS0 | exact HSW | exact HS1 | exact HS6 | exact HS3)
          (first | (refine step_append_lies _ rfl _ _ _ rfl N0 3 i0 (.int .i64 0) 1 8 Try.underlying102 hi0 hz0 hz1 hz2 rfl (by decide) (.slice ia (q'.I s.c s.r).length ic) (q'.I s.c s.r).length (intsN (q'.I s.c s.r)) (by rfl) hoW1 ⟨U.heap.size, 0, none⟩ 1 1 [.int .i64 (rs.length : Nat)] (by rfl) (by rfl) HN.out (by simp [Value.oneCell']) (by omega) (by unfold maxLen; omega) (by omega) hlo1 (W1.heap.size) (by rfl) ?_; intro g cap w6 hown6 hgrow hat _; obtain ⟨W3, hES, hg3, hF3, q2, hM3, hv3, hva3⟩ := HNext.out w6 _ hown6 hgrow (hatF hat); have HS6 := cells_of (HB1.out.kept hgrow hVG) (HQ1.out.kept hgrow hVs); have HS3 := cells_of ((HB1.out.kept hgrow hVG).kept hg3 hGM) ((HQ1.out.kept hgrow hVs).kept hg3 hsM)))
        have HM3 : Hid (GridM N0 G M (fun x => X x ∨ x ∈ w.heap.size :: cs) W3 rs (n + (k + 1)) (L.take (k + 1)) q2) := by
          rw [List.take_succ_eq_append_getElem hlt, ← Hs.out]; exact hM3
        have HF3 : Hid (Frm N0 (fun x => X x ∨ x ∈ w.heap.size :: cs) w2 W3) := HFW.out.trans hF3
        clear hM3 hF3 hES hg3 hown6 hgrow hat HS6 HS3
        go_wp2
        go_roundw
        case rel => exact ⟨k + 1, q2, by omega, by go_num, HM3.out, hv3.trans hvr, hva3.trans hva', HF3.out⟩
        case measure => simp [intOf]; omega
      · have e : k = L.length := by omega
        subst e
        have HM : Hid (GridM N0 G M (fun x => X x ∨ x ∈ w.heap.size :: cs) wr rs (n + L.length) L q') := by rw [List.take_length] at hM; exact hM
        have Xr := hF.blk X2 (.inr List.mem_cons_self)
        have p0 : wr.cell? ⟨w.heap.size, 0, none⟩ = some (.int .i64 p.a) := Xr.cell 0 (by simp)
        have p1 : wr.cell? ⟨w.heap.size, 1, none⟩ = some (.int .i64 p.b) := Xr.cell 1 (by simp)
        have p2 : wr.cell? ⟨w.heap.size, 2, none⟩ = some (.int .i64 p.c) := Xr.cell 2 (by simp)
        have p3 : wr.cell? ⟨w.heap.size, 3, none⟩ = some (.int .i64 p.d) := Xr.cell 3 (by simp)
        have hwl := Xr.lt
        have hgl : G < wr.heap.size := hM.box.lt
        obtain ⟨ra, rc, hvrs⟩ := own_shape hM.rooms.own
        have hGr : some G ≠ q'.vr.ownBlock := fun e => (hM.dr G e.symm).1 rfl
        have g0 : wr.cell? ⟨G, 0, none⟩ = some q'.vr := hM.box.cell 0 (by simp)
        have hown : (wr.alloc (.cells #[.int .i64 p.a, .int .i64 p.b, .int .i64 p.c, .int .i64 p.d] 70)).drew.ownsRow N0 70 4 q'.vr rs.length (recs q'.R rs.length) := (hM.rooms.own.alloc _).drew
        have hbR : Bel wr (wr.alloc (.cells #[.int .i64 p.a, .int .i64 p.b, .int .i64 p.c, .int .i64 p.d] 70)).drew := (bel_alloc (Bel.refl wr) _).drew
        have HBx : Hid (Blk (wr.alloc (.cells #[.int .i64 p.a, .int .i64 p.b, .int .i64 p.c, .int .i64 p.d] 70)).drew G [q'.vr, .map (some M), q'.va]) := hM.box.bel hbR
        have hlo : N0 ≤ wr.heap.size := hM.lo.2.2.2
        rw [hvrs] at g0 hown hGr
        have Hvrs : Hid (q'.vr = .slice ra rs.length rc) := hvrs
        clear hM Xr hvrs
        go_wp2
        go_region_law (first
          | (refine step_append_lies _ rfl _ _ _ rfl N0 70 i1 (.agg #[.int .i64 0, .int .i64 0, .int .i64 0, .int .i64 0]) 4 32 Try.underlying63 hi1 hy0 hy1 hy2 rfl (by decide) (.slice ra rs.length rc) rs.length (recs q'.R rs.length) (by rfl) hown ⟨wr.heap.size, 0, none⟩ 1 1 [.int .i64 p.a, .int .i64 p.b, .int .i64 p.c, .int .i64 p.d] (by rfl) (by rfl) (World.news_of_block (cs := #[.int .i64 p.a, .int .i64 p.b, .int .i64 p.c, .int .i64 p.d]) (t := 70) (fr := (0, 0)) (heap_alloc_new wr _)) (by simp [Value.oneCell']) (by omega) (by unfold maxLen; omega) (by omega) (by simp; omega) (wr.heap.size + 1) (by simp) ?_; intro g cap wB hownB hgrow hat _; have hBB := HBx.out.kept hgrow hGr; have y6 : wB.cell? ⟨G, 0, none⟩ = some q'.vr := hBB.cell 0 (by simp); have z6 := hBB.free 0))
        all_goals
          obtain ⟨q3, hN3, hv3, hva3, hF3⟩ := HM.out.room hp (by rw [HLe.out]; exact fun _ h => h) hbR (vr := .slice (some ⟨g, 0, none⟩) (rs.length + 1) cap) hownB (by rw [Hvrs.out]; exact hgrow) (by rw [Hvrs.out]; exact hatF (by simpa using hat))
          obtain ⟨wC, HC⟩ : ∃ W, Hid (W = wB.setCell ⟨G, 0, none⟩ (.slice (some ⟨g, 0, none⟩) (rs.length + 1) cap)) := ⟨_, (rfl : wB.setCell ⟨G, 0, none⟩ (.slice (some ⟨g, 0, none⟩) (rs.length + 1) cap) = _)⟩
          rw [← HC.out] at hN3 hF3
          obtain ⟨xa, xc, hvas⟩ := own_shape hN3.asked
          have g2 : wC.cell? ⟨G, 2, none⟩ = some q3.va := hN3.box.cell 2 (by simp)
          have hGa : some G ≠ q3.va.ownBlock := fun e => (hN3.da G e.symm).1 rfl
          have hgC : G < wC.heap.size := hN3.box.lt
          have hownC : (wC.alloc (.cells #[.bool false] 4)).ownsRow N0 4 1 q3.va rs.length (q3.bl.map Value.bool) := hN3.asked.alloc _
          have hbC : Bel wC (wC.alloc (.cells #[.bool false] 4)) := bel_alloc (Bel.refl _) _
          have HBc : Hid (Blk (wC.alloc (.cells #[.bool false] 4)) G [q3.vr, .map (some M), q3.va]) := hN3.box.bel hbC
          have hloC : N0 ≤ wC.heap.size := hN3.lo.2.2.2
          rw [hvas] at g2 hGa hownC
          have Hvas : Hid (q3.va = .slice xa rs.length xc) := hvas
          have HN3 : Hid (GridN N0 G M (fun x => X x ∨ x ∈ w.heap.size :: cs) wC (rs ++ [p]) rs.length (n + L.length) q3) := hN3
          have HF3 : Hid (Frm N0 (fun x => X x ∨ x ∈ w.heap.size :: cs) w wC) := HF2.out.trans (hF.trans hF3)
          clear hN3 hvas hF3 hownB hgrow hat hown hBB y6 z6
          rw [← HC.out]
          go_wp2_with (first
            | (at_builtin; refine wpList_append_lies _ rfl _ _ 64 rfl N0 4 i2 (.bool false) 1 1 Try.underlying64 hi2 hx0 hx1 hx2 rfl (by decide) _ _ _ rfl hownC ⟨wC.heap.size, 0, none⟩ 1 1 [.bool false] rfl rfl (cell_one_new _ _ _) (by simp [Value.oneCell']) (by decide) (by unfold maxLen; omega) (by omega) (by simp; omega) (wC.heap.size + 1) (by simp) ?_)
            | go_in)
          intro ge cape wE hownE hgrowE hatE _
          have hBE := HBc.out.kept hgrowE hGa
          have y7 : wE.cell? ⟨G, 2, none⟩ = some q3.va := hBE.cell 2 (by simp)
          have z7 := hBE.free 2
          obtain ⟨q4, hG4, hF4⟩ := HN3.out.markY (fun _ h => .inl h) (by simp) hbC (va := .slice (some ⟨ge, 0, none⟩) (rs.length + 1) cape) hownE (by rw [Hvas.out]; exact hgrowE) (by rw [Hvas.out]; exact hatF (by simpa using hatE))
          have HP : Hid (PutX N0 G M X w rs p n (.returned (.bool true)) (wE.setCell ⟨G, 2, none⟩ (.slice (some ⟨ge, 0, none⟩) (rs.length + 1) cape))) :=
            ⟨⟨q4, n + L.length, by rw [hf], by rw [if_pos hf]; exact hG4, by rw [HLe.out]; exact Nat.le_refl _, (HF3.out.trans hF4).weak fun _ h => .inl h⟩⟩
          clear hG4 hF4 hownE hgrowE hatE
          go_wp2
          exact bodyPost_ret (v := .bool true) (by simp [results, Try.results34, go_sem]) rfl HP.out
  · rw [hf]
    have HP : Hid (PutX N0 G M X w rs p n (.returned (.bool false)) w2) :=
      ⟨⟨_, n, by rw [hf], by rw [if_neg (by rw [hf]; decide)]; exact HG2.out, by omega, HF2.out.weak fun _ h => .inl h⟩⟩
    go_wp2
    exact bodyPost_ret (v := .bool false) (by simp [results, Try.results34, go_sem]) rfl HP.out
end Go.Proofs.Ytpbpnkklnbmkeaa

namespace Go.Proofs.Ytpbpnkklnbmkeaa
open Go.RowKit Go.Maps

/-- Some block that the grid keeps clear of grows; what it keeps clear of then. -/
theorem Grid.grow {N0 G M : Nat} {X Y : Nat → Prop} {w w' : World} {rs : List RmD} {n : Nat} {q : GD} {row : Option Nat} (h : Grid N0 G M X w rs n q) (hg : w.grownBy w' row) (hr : ∀ x, row = some x → X x) (hY : ∀ x, Y x → X x ∨ w.heap.size ≤ x) : Grid N0 G M Y w' rs n q := by
  have ne : ∀ v : Value, (∀ x, v.ownBlock = some x → x ≠ G ∧ ¬ X x) → v.ownBlock = none ∨ v.ownBlock ≠ row := fun v hv => by
    cases hb : v.ownBlock with
    | none => exact .inl rfl
    | some x => exact .inr fun e => (hv x hb).2 (hr x e.symm)
  have hGr : some G ≠ row := fun e => (h.sh G (hr G e.symm)).1 rfl
  have hMr : some M ≠ row := fun e => (h.sh M (hr M e.symm)).2 rfl
  have hGl := h.box.lt
  have hMl := h.map.lt
  refine ⟨h.box.kept hg hGr, h.map.same (hg.block M h.map.lt hMr), h.rooms.kept rmF hg (ne _ h.dr), h.asked.kept hg (ne _ h.da), fun c r => (h.rows c r).kept hg (ne _ (h.dv c r)), h.len, h.mem, h.all, ⟨h.lo.1, h.lo.2.1, h.lo.2.2.1, Nat.le_trans h.lo.2.2.2 hg.size⟩, fun x hx => ?_, h.d1, h.d2, h.d3, fun x hx => ⟨(h.dr x hx).1, fun e => ?_⟩, fun x hx => ⟨(h.da x hx).1, fun e => ?_⟩, fun c r x hx => ⟨(h.dv c r x hx).1, fun e => ?_⟩⟩
  · rcases hY x hx with k | k
    · exact h.sh x k
    · omega
  · have := (h.rooms.own.lt x hx).2
    rcases hY x e with k | k
    · exact (h.dr x hx).2 k
    · omega
  · have := (h.asked.lt x hx).2
    rcases hY x e with k | k
    · exact (h.da x hx).2 k
    · omega
  · have := ((h.rows c r).lt x hx).2
    rcases hY x e with k | k
    · exact (h.dv c r x hx).2 k
    · omega
theorem Grid.weakX {N0 G M : Nat} {X Y : Nat → Prop} {w : World} {rs : List RmD} {n : Nat} {q : GD} (h : Grid N0 G M X w rs n q) (hY : ∀ x, Y x → X x ∨ w.heap.size ≤ x) : Grid N0 G M Y w rs n q :=
  h.grow (World.grownBy.refl w none) (fun _ e => nomatch e) hY
theorem Frm.own {N0 : Nat} {X : Nat → Prop} {w w' : World} {base : Nat} {e : TypeId} {k n : Nat} {v : Value} {xs : List Value} (h : Frm N0 X w w') (ho : w.ownsRow base e k v n xs) (hx : ∀ x, v.ownBlock = some x → X x) : w'.ownsRow base e k v n xs := by
  refine ⟨ho.1, ?_⟩
  rcases ho.2 with hn | ⟨g, cap, cur, rfl, hb, hg, rest⟩
  · exact .inl hn
  · refine .inr ⟨g, cap, cur, rfl, hb, ?_, rest⟩
    rw [h.block g (Array.getElem?_eq_some_iff.1 hg).1 (.inr (hx g rfl))]
    exact hg
theorem intsV_map (s : List LblD) : intsV (s.map (·.id)) = s.map fun d => Value.int .i64 d.id := by simp [intsV]
/-- What is kept beside the grid. -/
def XB (bs : List Nat) (v : Value) : Nat → Prop := fun x => x ∈ bs ∨ v.ownBlock = some x
set_option maxRecDepth 100000 in
set_option maxHeartbeats 4000000 in
theorem place_any (a : Option Addr) (n c : Nat) (l : List LblD) (bs : List Nat) (ai : Option Addr) (ni ci : Nat) (bf : List Int) (bi : List Nat) (w : World) (hT : LblL w a l bs) (hn : l.length = n) (hm : n ≤ 1048576) (hI : Ints w ai bf bi) (hni : bf.length = ni) (hmi : ni ≤ 1048576) :
    Calls Try.prog 11 #[.slice a n c, .slice ai ni ci] w fun e w' => ∃ a' c' bs', e = .returned (.slice a' (plQ l bf).length c') ∧ Ints w' a' (plQ l bf) bs' ∧ Fresh w w' bs' ∧ Bel w w' := by
  obtain ⟨i2, hi2, hx0, hx1, hx2⟩ := info_parts infoI
  have hmm := @run_makeMap Try.prog
  have Hn : Hid (l.length = n) := hn
  have Hni : Hid (bf.length = ni) := hni
  go_enter Try.func11, Try.ntmps11
  go_wp2_with fail
  refine (labelsOk_any a n c l bs _ hT hn hm).mono ?_
  rintro e w1 ⟨rfl, hb1⟩
  rcases Bool.eq_false_or_eq_true (bP (lblsP l)) with hp | hp
  rotate_left
  · have HQ : Hid (plQ l bf = []) := plQ_no hp
    rw [hp]
    go_wp2
    go_ret
    rw [HQ.out]
    exact ⟨none, 0, [], rfl, Sl.nil, ⟨List.nodup_nil, (fun _ h => nomatch h), (fun _ h => nomatch h)⟩, hb1⟩
  rw [hp]
  by_cases h5 : ni ≤ 500
  rotate_left
  · have HQ : Hid (plQ l bf = []) := plQ_many (by rw [hni]; exact h5)
    have h5' : decide (((500 : Int)) < (ni : Int)) = true := decide_eq_true (by omega)
    go_wp2
    go_ret
    rw [HQ.out]
    exact ⟨none, 0, [], rfl, Sl.nil, ⟨List.nodup_nil, (fun _ h => nomatch h), (fun _ h => nomatch h)⟩, hb1⟩
  have HP : Hid (lblsP l) := bP_out hp
  have HQ : Hid (plQ l bf = ascI ((plTo [] (ordQ bf l)).map (·.id))) := plQ_yes hp (by rw [hni]; exact h5)
  obtain ⟨W, HW⟩ : ∃ W, Hid (W = (w1.alloc (.map #[] 0)).alloc (.cells #[.slice none 0 0, .map (some w1.heap.size), .slice none 0 0] 66)) := ⟨_, (rfl : (w1.alloc (.map #[] 0)).alloc (.cells #[.slice none 0 0, .map (some w1.heap.size), .slice none 0 0] 66) = _)⟩
  have hG := Grid.fresh w1
  rw [← HW.out] at hG
  have hbW : Bel w1 W := by rw [HW.out]; exact bel_alloc (bel_alloc (Bel.refl _) _) _
  have hBW := bel_step hb1 hbW
  have HGW : Hid (Grid w1.heap.size (w1.heap.size + 1) w1.heap.size (fun _ => False) W [] 0 ⟨.slice none 0 0, .slice none 0 0, fun _ _ => .slice none 0 0, fun _ => List.replicate 4 (.bool false), fun _ _ => [], []⟩) := hG
  have hTW := hT.bel lblE hBW
  have hIW := hI.bel intE hBW
  clear hn hni hp hT hI hG
  go_upto_region 4 with fail
  rw [← HW.out]
  go_wp2_with fail
  refine (inTurn_any a n c l bs ai ni ci bf bi _ hTW Hn.out hIW Hni.out hmi HP.out).mono ?_
  rintro e w2 ⟨a2, c2, bs2, rfl, T2, hlo2, hb2⟩
  have hB2 := bel_step hBW hb2
  obtain ⟨o, Ho⟩ : ∃ o, Hid (ordQ bf l = o) := ⟨_, (rfl : ordQ bf l = _)⟩
  have HOm : Hid (∀ d ∈ o, lblK d = true) := fun d hd => lblsP_mem HP.out ((ordQ_perm bf l).mem_iff.1 (by rw [Ho.out]; exact hd))
  have hol : o.length = n := by rw [← Ho.out, (ordQ_perm bf l).length_eq, Hn.out]
  have hn5 : n ≤ 500 := by rw [← Hn.out]; exact HP.out.1
  have HOl : Hid (o.length = n) := hol
  rw [Ho.out] at T2 HQ
  have hN0 := HGW.out.lo.2.2.2
  have HG2 : Hid (Grid w1.heap.size (w1.heap.size + 1) w1.heap.size (XB bs2 (.slice none 0 0)) w2 [] 0 ⟨.slice none 0 0, .slice none 0 0, fun _ _ => .slice none 0 0, fun _ => List.replicate 4 (.bool false), fun _ _ => [], []⟩) :=
    (HGW.out.weakX (Y := XB bs2 (.slice none 0 0)) (fun x (hx : x ∈ bs2 ∨ (Value.slice none 0 0).ownBlock = some x) => Or.elim hx (fun h => .inr (hlo2 x h)) (fun h => nomatch h))).bel hb2
  have hT2l := T2.lt lblE
  have hw2 : w1.heap.size ≤ w2.heap.size := Nat.le_trans hbW.out.size hb2.out.size
  clear hTW hIW HGW HW hbW hBW hmm hlo2
  go_wp2
  go_loopw [6, 23] (fun v i wr => ∃ (k : Nat) (s : List LblD) (q : GD) (n' : Nat) (va : Option Addr) (vc : Nat), k ≤ n ∧ i = .int .i64 k ∧ v = .slice va s.length vc ∧ OwnI w2.heap.size wr v (s.map (·.id)) ∧ Grid w1.heap.size (w1.heap.size + 1) w1.heap.size (XB bs2 v) wr (s.map rmOf) n' q ∧ n' ≤ 4 * k ∧ s.length ≤ k ∧ (∀ d ∈ s, lblK d = true) ∧ plTo [] o = plTo s (o.drop k) ∧ LblL wr a2 o bs2 ∧ Below w1.heap.size w2 wr) (fun _ i _ => n - (intOf i).toNat)
  case atStart => exact ⟨0, [], _, 0, none, 0, Nat.zero_le _, rfl, rfl, World.ownsRow_nil _ _ _ _, HG2.out, by omega, Nat.le_refl _, (fun _ h => nomatch h), by simp, T2, Below.refl _ _⟩
  case round =>
    clear T2 HG2
    obtain ⟨k, s, q, n', va, vc, hk, rfl, rfl, hO, hGr, hn', hsl, hsK, hsp, hTr, hBr⟩ := hrel
    have HG : Hid (Grid w1.heap.size (w1.heap.size + 1) w1.heap.size (XB bs2 (.slice va s.length vc)) wr (s.map rmOf) n' q) := hGr
    have HO : Hid (OwnI w2.heap.size wr (.slice va s.length vc) (s.map (·.id))) := hO
    have Hsp : Hid (plTo [] o = plTo s (o.drop k)) := hsp
    have HsK : Hid (∀ d ∈ s, lblK d = true) := hsK
    clear hGr hO hsp hsK
    by_cases hlt : k < n
    · have hkl : k < o.length := by rw [HOl.out]; exact hlt
      obtain ⟨bb, off, f, rfl, hbb, hx⟩ := hTr.out hkl
      obtain ⟨_, j0, j1, j2, j3, j4, j5, c0, c1, c2', c3, c4, c5⟩ := hx k hkl
      have hkd := HOm.out o[k] (List.getElem_mem hkl)
      have hst := plTo_step (s := s) hkl
      obtain ⟨d, Hd⟩ : ∃ d, Hid (d = o[k]) := ⟨_, (rfl : o[k] = _)⟩
      rw [← Hd.out] at c0 c1 c2' c3 c4 c5 hkd hst j0
      have Hst : Hid (plTo s (o.drop k) = if frB (s.map rmOf) (rmOf d) = true then plTo (s ++ [d]) (o.drop (k + 1)) else plTo s (o.drop (k + 1))) := hst
      obtain ⟨U, HU⟩ : ∃ U, Hid (U = wr.alloc (.cells #[.int .i64 d.id, .int .i64 d.x, .int .i64 d.y, .int .i64 d.wd, .int .i64 d.ht, .int .i64 d.rk] 33)) := ⟨_, (rfl : wr.alloc (.cells #[.int .i64 d.id, .int .i64 d.x, .int .i64 d.y, .int .i64 d.wd, .int .i64 d.ht, .int .i64 d.rk] 33) = _)⟩
      have hbU : Bel wr U := by rw [HU.out]; exact bel_alloc (Bel.refl _) _
      have XU : Blk U wr.heap.size [.int .i64 d.id, .int .i64 d.x, .int .i64 d.y, .int .i64 d.wd, .int .i64 d.ht, .int .i64 d.rk] := by rw [HU.out]; exact Blk.new wr [.int .i64 d.id, .int .i64 d.x, .int .i64 d.y, .int .i64 d.wd, .int .i64 d.ht, .int .i64 d.rk] _
      have u0 : U.cell? ⟨wr.heap.size, 0, none⟩ = some (.int .i64 d.id) := XU.cell 0 (by simp)
      have u1 : U.cell? ⟨wr.heap.size, 1, none⟩ = some (.int .i64 d.x) := XU.cell 1 (by simp)
      have u2 : U.cell? ⟨wr.heap.size, 2, none⟩ = some (.int .i64 d.y) := XU.cell 2 (by simp)
      have u3 : U.cell? ⟨wr.heap.size, 3, none⟩ = some (.int .i64 d.wd) := XU.cell 3 (by simp)
      have u4 : U.cell? ⟨wr.heap.size, 4, none⟩ = some (.int .i64 d.ht) := XU.cell 4 (by simp)
      have u5 : U.cell? ⟨wr.heap.size, 5, none⟩ = some (.int .i64 d.rk) := XU.cell 5 (by simp)
      have ul := XU.lt
      have hrs : wr.heap.size < U.heap.size := XU.lt
      clear hx hst
      go_upto_region 8 with fail
      rw [← HU.out]
      go_wp2_with fail
      refine (room_any d _ hkd).mono ?_
      rintro e w3 ⟨rfl, hb3⟩
      have hU3 := bel_step hbU hb3
      have hN3 : w2.heap.size ≤ wr.heap.size := hBr.size
      have hlen := rmOf_len hkd
      have hvlt : ∀ x, (Value.slice va s.length vc).ownBlock = some x → w2.heap.size ≤ x ∧ x < wr.heap.size := fun x hx => HO.out.lt x hx
      have HXl : Hid (∀ x, (XB bs2 (.slice va s.length vc) x ∨ x = wr.heap.size) → x < w3.heap.size) := fun x hx => by
        have h1 := hU3.out.size
        have h2 := hb3.out.size
        rcases hx with (hx | hx) | hx
        · have := hT2l x hx; omega
        · have := (hvlt x hx).2; omega
        · omega
      have HG3 : Hid (Grid w1.heap.size (w1.heap.size + 1) w1.heap.size (fun x => XB bs2 (.slice va s.length vc) x ∨ x = wr.heap.size) w3 (s.map rmOf) n' q) :=
        (HG.out.weakX (Y := fun x => XB bs2 (.slice va s.length vc) x ∨ x = wr.heap.size) (fun x hx => Or.elim hx (fun h => .inl h) (fun h => .inr (Nat.le_of_eq h.symm)))).bel hU3
      clear u0 u1 u2 u3 u4 u5 ul
      go_wp2_with fail
      refine (putX_any w1.heap.size (w1.heap.size + 1) w1.heap.size _ (s.map rmOf) n' q (rmOf d) w3 HXl.out HG3.out (rmOf_P hkd) (by omega) (by rw [List.length_map]; omega)).mono ?_
      rintro e w4 ho
      obtain ⟨q4, n4, rfl, hG4, hn4, hF4⟩ := ho.out
      have HT4 : Hid (LblL w4 (some ⟨bb, off, none⟩) o bs2) := hF4.sl lblE (hTr.bel lblE hU3) (fun x hx => .inl (.inl hx))
      have HB4 : Hid (Below w1.heap.size w2 w4) := hBr.trans ((hU3.out.mono (Nat.le_trans hw2 hN3)).trans (hF4.below (Nat.le_trans hw2 (Nat.le_trans hN3 hU3.out.size))))
      have HO4 : Hid (OwnI w2.heap.size w4 (.slice va s.length vc) (s.map (·.id))) := by
        have h1 := World.ownsRow.kept HO.out (bel_none hU3) (Classical.em _)
        exact hF4.own h1 (fun x hx => .inl (.inr hx))
      have X4 := hF4.blk (XU.bel hb3) (.inr rfl)
      clear ho HG3 XU
      rcases Bool.eq_false_or_eq_true (frB (s.map rmOf) (rmOf d)) with hf | hf
      · rw [if_pos hf] at hG4
        have HG4 : Hid (Grid w1.heap.size (w1.heap.size + 1) w1.heap.size (fun x => XB bs2 (.slice va s.length vc) x ∨ x = wr.heap.size) w4 (s.map rmOf ++ [rmOf d]) n4 q4) := hG4
        have HS : Hid (plTo [] o = plTo (s ++ [d]) (o.drop (k + 1))) := by rw [Hsp.out, Hst.out, if_pos hf]; exact rfl
        have hsl' : (s.map (·.id)).length = s.length := List.length_map ..
        rw [hf]
        have x0 : w4.cell? ⟨wr.heap.size, 0, none⟩ = some (.int .i64 d.id) := X4.cell 0 (by simp)
        have xl := X4.lt
        have hown0 : w4.ownsRow w2.heap.size 2 1 (.slice va s.length vc) s.length (intsV (s.map (·.id))) := by
          have h := HO4.out
          unfold OwnI at h
          rw [hsl'] at h
          exact h
        have hownC := World.ownsRow.alloc hown0 (.cells #[.int .i64 d.id] 2)
        have hs4 : w2.heap.size ≤ w4.heap.size := HB4.out.size
        clear hG4 hown0 X4
        go_wp2_with (first
          | (at_builtin; refine wpList_append_lies _ rfl _ _ 25 rfl w2.heap.size 2 i2 (.int .i64 0) 1 8 Try.underlying25 hi2 hx0 hx1 hx2 rfl (by decide) _ _ _ rfl hownC ⟨w4.heap.size, 0, none⟩ 1 1 [.int .i64 d.id] rfl rfl (cell_one_new _ _ _) (by simp [Value.oneCell']) (by decide) (by unfold maxLen; omega) (by omega) (by simp; omega) (w4.heap.size + 1) (by simp) ?_)
          | go_in)
        intro g cap w5 hown5 hgrow5 hat _
        have hba : Bel w4 (w4.alloc (.cells #[.int .i64 d.id] 2)) := bel_alloc (Bel.refl _) _
        have hvx : ∀ x, (Value.slice (some ⟨g, 0, none⟩) (s.length + 1) cap).ownBlock = some x → (Value.slice va s.length vc).ownBlock = some x ∨ w4.heap.size + 1 ≤ x := fun x hx => by
          obtain rfl : g = x := by simpa [Value.ownBlock] using hx
          have hat' : (Value.slice va s.length vc).ownBlock = some g ∨ g = w4.heap.size + 1 := by simpa using hat
          rcases hat' with h | h
          · exact .inl h
          · exact .inr (by omega)
        have HG5 : Hid (Grid w1.heap.size (w1.heap.size + 1) w1.heap.size (XB bs2 (.slice (some ⟨g, 0, none⟩) (s.length + 1) cap)) w5 ((s ++ [d]).map rmOf) n4 q4) := by
          rw [List.map_append]
          have hs : (w4.alloc (.cells #[.int .i64 d.id] 2)).heap.size = w4.heap.size + 1 := by simp
          have hvx' := hvx
          refine (HG4.out.bel hba).grow (Y := XB bs2 (.slice (some ⟨g, 0, none⟩) (s.length + 1) cap)) hgrow5 (fun x hx => .inl (.inr hx)) (fun x (hx : x ∈ bs2 ∨ (Value.slice (some ⟨g, 0, none⟩) (s.length + 1) cap).ownBlock = some x) => ?_)
          rcases hx with hx | hx
          · exact .inl (.inl (.inl hx))
          · rcases hvx' x hx with h | h
            · exact .inl (.inl (.inr h))
            · exact .inr (by rw [hs]; exact h)
        have HO5 : Hid (OwnI w2.heap.size w5 (.slice (some ⟨g, 0, none⟩) (s.length + 1) cap) ((s ++ [d]).map (·.id))) := by
          rw [List.map_append]
          exact own_add (by rw [hsl']; exact hown5)
        have HT5 : Hid (LblL w5 (some ⟨bb, off, none⟩) o bs2) := (HT4.out.bel lblE hba).keptO lblE hgrow5 (fun x hx e => by have := (hvlt x e).1; have := hT2l x hx; omega)
        have HB5 : Hid (Below w1.heap.size w2 w5) := HB4.out.trans ((hba.out.mono (Nat.le_trans hw2 hs4)).trans (Below.grown (Below.refl _ _) hgrow5 (Nat.le_trans (Nat.le_trans hw2 hs4) hba.out.size) (fun x hx => Nat.le_trans hw2 (hvlt x hx).1)))
        clear hown5 hgrow5 hownC hat hvx x0 xl
        go_wp2
        go_roundw
        case rel =>
          refine ⟨k + 1, s ++ [d], q4, n4, some ⟨g, 0, none⟩, cap, by omega, by go_num, ?_, HO5.out, HG5.out, by omega, by simp; omega, ?_, HS.out, HT5.out, HB5.out⟩
          · simp
          · exact fun x hx => (List.mem_append.1 hx).elim (HsK.out x) (fun h => by rw [List.mem_singleton.1 h]; exact hkd)
        case measure => simp [intOf]; omega
      · have HS : Hid (plTo [] o = plTo s (o.drop (k + 1))) := by rw [Hsp.out, Hst.out, if_neg (by rw [hf]; exact Bool.false_ne_true)]; exact rfl
        rw [if_neg (by rw [hf]; exact Bool.false_ne_true)] at hG4
        have HG5 : Hid (Grid w1.heap.size (w1.heap.size + 1) w1.heap.size (XB bs2 (.slice va s.length vc)) w4 (s.map rmOf) n4 q4) := hG4.weakX (fun x hx => .inl (.inl hx))
        rw [hf]
        clear hG4 X4
        go_wp2
        go_roundw
        case rel => exact ⟨k + 1, s, q4, n4, va, vc, by omega, by go_num, rfl, HO4.out, HG5.out, by omega, by omega, HsK.out, HS.out, HT4.out, HB4.out⟩
        case measure => simp [intOf]; omega
    · have e : k = n := by omega
      subst e
      have HE : Hid (plTo [] o = s) := by rw [Hsp.out, List.drop_eq_nil_of_le (by rw [HOl.out]; exact Nat.le_refl _)]; exact rfl
      have HBr : Hid (Bel w wr) := hB2.out.trans (hBr.mono hb1.out.size)
      have hin : ∀ y ∈ s.map (·.id), In64 y := fun y hy => by
        obtain ⟨d, hd, rfl⟩ := List.mem_map.1 hy
        have := (lblK_out (HsK.out d hd)).1
        unfold In64
        omega
      have hlo : w.heap.size ≤ w2.heap.size := hB2.out.size
      have hvl : ∀ x, (Value.slice va s.length vc).ownBlock = some x → w.heap.size ≤ x := fun x hx => Nat.le_trans hlo (HO.out.lt x hx).1
      go_wp2_with fail
      refine (sortInt_any w2.heap.size (.slice va s.length vc) (s.map (·.id)) _ HO.out hin (by rw [List.length_map]; omega)).mono ?_
      rintro e w5 ⟨rfl, ⟨a5, c5, bs5, hv5, T5, M5⟩, hg5⟩
      have HB5 : Hid (Bel w w5) := bel_grow HBr.out hg5 hvl
      rw [HE.out] at HQ
      have hv5' := hv5
      rw [← HQ.out] at T5 hv5'
      injection hv5' with e1 e2 e3
      clear HG hin hvl
      go_wp2
      go_ret
      exact ⟨a5, c5, bs5, rfl, T5, M5.fresh hlo, HB5.out⟩
end Go.Proofs.Ytpbpnkklnbmkeaa

namespace Go.Proofs.Ytpbpnkklnbmkeaa
open Go.RowKit Go.Maps

theorem hatS {v : Value} {g n c H : Nat} (h : v.ownBlock = some g ∨ g = H) : (Value.slice (some ⟨g, 0, none⟩) n c).ownBlock = v.ownBlock ∨ (Value.slice (some ⟨g, 0, none⟩) n c).ownBlock = some H := by
  rcases h with h | h
  · left; rw [h]; rfl
  · right; rw [h]; rfl
/-- What is shown on the day ahead of day k. -/
noncomputable def bfK (L : List (List LblD)) : Nat → List Int
  | 0 => []
  | k + 1 => plQ (L.getD k []) (bfK L k)
theorem bfK_len (L : List (List LblD)) (k : Nat) : (bfK L k).length ≤ 500 := by
  cases k
  · simp [bfK]
  · exact plQ_len _ _
theorem bfK_succ {L : List (List LblD)} {k : Nat} (h : k < L.length) : bfK L (k + 1) = plQ L[k] (bfK L k) := by
  show plQ (L.getD k []) (bfK L k) = _
  rw [getD_at _ h]
noncomputable def stTo (L : List (List LblD)) (k : Nat) : List (List Int) := (List.range k).map fun i => bfK L (i + 1)
theorem stTo_len (L : List (List LblD)) (k : Nat) : (stTo L k).length = k := by simp [stTo]
theorem stTo_succ (L : List (List LblD)) (k : Nat) : stTo L (k + 1) = stTo L k ++ [bfK L (k + 1)] := by simp [stTo, List.range_succ]
noncomputable def stQ (L : List (List LblD)) : List (List Int) := if L.length ≤ 30 then stTo L L.length else []
theorem stQ_len (L : List (List LblD)) : (stQ L).length ≤ 30 := by
  unfold stQ
  split
  · rw [stTo_len]; assumption
  · simp
theorem stQ_row {L : List (List LblD)} {d : List Int} (h : d ∈ stQ L) : d.length ≤ 500 := by
  unfold stQ at h
  split at h
  · obtain ⟨i, _, rfl⟩ := List.mem_map.1 h
    exact bfK_len _ _
  · cases h

def IsV : VElem (List Int) := fun w vs d bs => d.length ≤ maxLen ∧ ∃ a c, vs = [.slice a d.length c] ∧ Ints w a d bs
theorem isV : VStays 1 IsE IsV :=
  ⟨fun ⟨_, a, c, e, _⟩ => by rw [e]; rfl, fun ⟨_, a, c, e, _⟩ u hu => by
      subst e; simp only [List.mem_cons, List.not_mem_nil, or_false] at hu; rcases hu with rfl; rfl,
    fun ⟨h1, a, c, e, h5⟩ hA => ⟨h1, a, c, e, h5.alike intE hA⟩, fun ⟨_, a, c, e, h5⟩ => h5.lt intE,
    fun ⟨h1, a, c, e, h5⟩ hc => by subst e; exact ⟨a, c, h1, hc 0 (by simp), h5⟩⟩
theorem infoIs : (Try.prog.info? 25).map (fun i => (i.zero, i.size, i.bytes)) = some (some (.slice none 0 0), 1, 24) := by kernel_rfl

/-- Rows of numbers of the call's own are answered. -/
def IssOut (w : World) (l : List (List Int)) (e : Ending) (w' : World) : Prop := ∃ a' c' bs', e = .returned (.slice a' l.length c') ∧ IsL w' a' l bs' ∧ Fresh w w' bs' ∧ Bel w w'

/-- The rows of the days ahead, and what was shown last. -/
structure StA (lo : Nat) (wr : World) (v : Value) (L : List (List LblD)) (k : Nat) (u : Value) : Prop where
  gr : ∃ R f, Gr 1 IsV 25 lo wr v (stTo L k) R f
  last : ∃ a c bs, u = .slice a (bfK L k).length c ∧ Ints wr a (bfK L k) bs ∧ (∀ x ∈ bs, v.ownBlock ≠ some x)

set_option maxRecDepth 100000 in
set_option maxHeartbeats 4000000 in
theorem steady_any (a : Option Addr) (n c : Nat) (L : List (List LblD)) (bs : List Nat) (w : World) (hT : LsL w a L bs) (hn : L.length = n) (hm : n ≤ 1048576) (hs : ∀ d ∈ L, d.length ≤ 1048576) :
    Calls Try.prog 16 #[.slice a n c] w fun e w' => IssOut w (stQ L) e w' := by
  have Hn : Hid (L.length = n) := hn
  have Hs : Hid (∀ d ∈ L, d.length ≤ 1048576) := hs
  clear hn hs
  by_cases h30 : n ≤ 30
  · have h30' : (n : Int) ≤ 30 := by omega
    have HQ : Hid (stQ L = stTo L n) := (by unfold stQ; rw [Hn.out, if_pos h30] : stQ L = stTo L n)
    obtain ⟨i0, hi0, hz0, hz1, hz2⟩ := info_parts infoIs
    have A0 : StA w.heap.size w (.slice none 0 0) L 0 (.slice none 0 0) :=
      ⟨⟨_, _, Gr.nil _ _ _ _ _⟩, none, 0, [], rfl, Sl.nil, fun _ h => nomatch h⟩
    go_enter Try.func16, Try.ntmps16
    go_wp2
    go_loopw [3, 4, 12] (fun s u i wr => ∃ k : Nat, k ≤ n ∧ i = .int .i64 k ∧ StA w.heap.size wr s L k u ∧ Bel w wr) (fun _ _ i _ => n - (intOf i).toNat)
    case atStart => exact ⟨0, Nat.zero_le _, rfl, A0, Bel.refl _⟩
    case round =>
      obtain ⟨k, hk, rfl, hA, hbel⟩ := hrel
      clear A0
      obtain ⟨⟨R, f0, hG⟩, aa, ac, ab, rfl, hI, hab⟩ := hA
      obtain ⟨va, vc, rfl⟩ := own_shape hG.own
      by_cases hlt : k < n
      · have hkl : k < L.length := by rw [Hn.out]; exact hlt
        have hlt' : (k : Int) < (n : Int) := by omega
        have HLK : Hid ((stTo L k).length = k) := stTo_len L k
        have HE : Hid (stTo L (k + 1) = stTo L k ++ [bfK L (k + 1)]) := stTo_succ L k
        have hlen := bfK_len L k
        have hlen2 := bfK_len L (k + 1)
        have HB : Hid (bfK L (k + 1) = plQ L[k] (bfK L k)) := bfK_succ hkl
        obtain ⟨b, off, f, rfl, hb, hx⟩ := (hT.bel lsE hbel).out hkl
        obtain ⟨a0, k0, m0, c0, t0⟩ := hx k hkl
        rw [Nat.mul_one] at c0
        have hsk := Hs.out L[k] (List.getElem_mem hkl)
        clear hx
        obtain ⟨q, Hq⟩ : ∃ q, Hid (bfK L k = q) := ⟨_, (rfl : bfK L k = _)⟩
        obtain ⟨z, Hz⟩ : ∃ q, Hid (bfK L (k + 1) = q) := ⟨_, (rfl : bfK L (k + 1) = _)⟩
        rw [Hq.out] at hI HB hlen ⊢
        rw [Hz.out] at HB HE hlen2
        have HG : Hid (Gr 1 IsV 25 w.heap.size wr (.slice va (stTo L k).length vc) (stTo L k) R f0) := hG
        clear hG
        go_wp2_with fail
        refine (place_any a0 _ k0 L[k] (f k) aa _ ac q ab _ t0 rfl hsk hI rfl (by omega)).mono ?_
        rintro e w4 ⟨a4, c4, b4, rfl, I4, F4, h04⟩
        rw [← HB.out] at I4 ⊢
        have hBr := hbel
        have HV : Hid (IsV w4 [.slice a4 z.length c4] z b4) := (⟨by unfold maxLen; omega, a4, c4, rfl, I4⟩ : IsV w4 _ z b4)
        have hown2 := World.ownsRow.alloc (own_bel HG.out.own h04) (.cells #[.slice a4 z.length c4] 25)
        have hBa := bel_alloc (bel_step hBr h04) (.cells #[.slice a4 z.length c4] 25)
        have hB4 := bel_step hBr h04
        clear t0 c0 hb hI hab
        go_wp2_with (first
          | (at_builtin; refine wpList_append_lies _ rfl _ _ 39 rfl w.heap.size 25 i0 (.slice none 0 0) 1 24 Try.underlying39 hi0 hz0 hz1 hz2 rfl (by decide) _ _ _ rfl hown2 ⟨w4.heap.size, 0, none⟩ 1 1 [.slice a4 z.length c4] rfl rfl ?c1 ?c2 (by decide) ?c3 ?c4 ?c5 (w4.heap.size + 1) ?c6 ?_)
          | go_in)
        case c1 =>
          intro j u hj
          match j, hj with
          | 0, hj => simp at hj; subst hj; simp [Addr.add]
        case c2 =>
          intro u hu
          simp at hu
          rcases hu with rfl; rfl
        case c3 => have := HLK.out; unfold maxLen; omega
        case c4 => have := HLK.out; omega
        case c5 => have := hB4.out.size; simp; omega
        case c6 => simp
        intro g cap w5 hown' hgrow hat _
        have hat' : (Value.slice va (stTo L k).length vc).ownBlock = some g ∨ g = (w4.alloc (.cells #[.slice a4 z.length c4] 25)).heap.size := by simpa using hat
        have hgv : ∀ y, (Value.slice va (stTo L k).length vc).ownBlock = some y → y < wr.heap.size := fun y e => (HG.out.own.lt y e).2
        have hA4 : Alike w4 w5 b4 := by
          have h1 : Alike w4 (w4.alloc (.cells #[.slice a4 z.length c4] 25)) b4 := Alike.bel (bel_alloc (Bel.refl w4) _) (fun x hx => (F4.new x hx).2)
          exact h1.trans (alike_row hgrow (fun x hx => ⟨(h1 x hx).1, fun e => by have := hgv x e.symm; have := (F4.new x hx).1; omega⟩))
        have HA5 : Hid (StA w.heap.size w5 (.slice (some ⟨g, 0, none⟩) ((stTo L k).length + 1) cap) L (k + 1) (.slice a4 z.length c4)) := by
          have := Gr.add isV HG.out h04 (bel_alloc (Bel.refl w4) (.cells #[.slice a4 z.length c4] 25)) HV.out F4 hBr.out.size hown' hgrow (hatS hat')
          rw [← HE.out] at this
          refine ⟨⟨_, _, this⟩, a4, c4, b4, by rw [Hz.out], by rw [Hz.out]; exact I4.alike intE hA4, fun x hx e => ?_⟩
          have e1 : g = x := by injection e
          subst e1
          have := F4.new g hx
          rcases hat' with h | h
          · have := hgv g h; omega
          · simp at h; omega
        have hB5 : Bel w w5 := bel_grow hBa hgrow (fun j e => (hown2.lt j e).1)
        clear hown' hgrow hown2 hBa HG hat hat' HV F4 h04 hB4 hgv hA4 I4
        go_wp2
        go_roundw
        case rel => exact ⟨k + 1, by omega, by go_num, HA5.out, hB5⟩
        case measure => simp [intOf]; omega
      · have e : k = n := by omega
        subst e
        obtain ⟨a', bs', c', e', hS, hM⟩ := Gr.out isV hG
        injection e' with e1 _ e3
        subst e1 e3
        have HS : Hid (IsL wr va (stQ L) c') := (by rw [HQ.out]; exact hS : IsL wr va (stQ L) c')
        have HM : Hid (Fresh w wr c') := hM.fresh (Nat.le_refl _)
        have HZ : Hid (IssOut w (stQ L) (.returned (.slice va (stTo L k).length vc)) wr) := (by rw [← HQ.out]; exact ⟨_, _, c', rfl, HS.out, HM.out, hbel⟩ : IssOut w (stQ L) (.returned (.slice va (stTo L k).length vc)) wr)
        clear hG hS hM hI
        go_wp2
        go_ret
        exact HZ.out
  · have h30' : ¬ (n : Int) ≤ 30 := by omega
    have h30'' : (30 : Int) < (n : Int) := by omega
    have HQ : Hid (stQ L = []) := (by unfold stQ; rw [Hn.out, if_neg h30] : stQ L = [])
    go_enter Try.func16, Try.ntmps16
    go_wp2
    go_ret
    rw [HQ.out]
    exact ⟨none, 0, [], rfl, Sl.nil, ⟨List.nodup_nil, (fun _ h => nomatch h), (fun _ h => nomatch h)⟩, Bel.refl _⟩
end Go.Proofs.Ytpbpnkklnbmkeaa

namespace Go.Proofs.Ytpbpnkklnbmkeaa
open Go.RowKit Go.Maps Go.Sort

/-- The two lists that are drawn. -/
def Pdr (w : World) (v : Value) (w' : World) : Prop :=
  ∃ (la : Option Addr) (m lc : Nat) (l : List LblD) (lb : List Nat) (ia : Option Addr) (q ic : Nat) (p : List Int) (ib : List Nat), v = .tuple #[.slice la m lc, .slice ia q ic] ∧ m ≤ 502 ∧ q ≤ 14 ∧ l.length = m ∧ LblL w' la l lb ∧ p.length = q ∧ Ints w' ia p ib ∧ Bel w w'

set_option maxRecDepth 100000 in
set_option maxHeartbeats 4000000 in
theorem drawPlace_any (a : Option Addr) (n c : Nat) (w : World) (hS : Bts w a n) (hn : n ≤ 1048576) :
    Calls Try.prog 12 #[.slice a n c] w fun e w' => ∃ v, e = .returned v ∧ Pdr w v w' := by
  go_enter Try.func12, Try.ntmps12
  go_wp2_with fail
  refine (l1New_any a n c w hS hn).mono ?_
  rintro e w1 ⟨rfl, hb1, k1⟩
  go_wp2_with fail
  refine (drawLbl_any _ a n c w w1 hb1 (Nat.le_refl _) k1 hS hn).mono ?_
  rintro e w2 ⟨v, m, rfl, hm, hO⟩
  have hB1 : w.heap.size < w1.heap.size := k1.lt
  go_wp2_with fail
  refine (drawIds_any _ a n c w w2 hO.d.b (Nat.le_refl _) hO.d.k hS hn).mono ?_
  rintro e w3 ⟨v2, q, ys, rfl, hq, hO2, hX2, d2⟩
  obtain ⟨xs, hr, hx⟩ := (hO.drawn d2 hB1).row
  obtain ⟨la, lc, l, lb, rfl, _, hl, hT, _⟩ := own_lbl hr hx
  obtain ⟨ia, ic, p, ib, rfl, _, hp, hI⟩ := own_intL hO2 hX2
  have HF : Hid (Pdr w (.tuple #[.slice la m lc, .slice ia q ic]) w3) := ⟨la, m, lc, l, lb, ia, q, ic, p, ib, rfl, hm, hq, hl, hT, hp, hI, d2.b⟩
  clear hO hO2 hX2 hr hx hT hI d2 k1 hb1
  go_wp2
  exact bodyPost_ret (v := .tuple #[.slice la m lc, .slice ia q ic]) (by simp [results, Try.results12, go_sem]) rfl ⟨_, rfl, HF.out⟩


set_option maxRecDepth 100000 in
set_option maxHeartbeats 2000000 in
theorem rank_any (d : LblD) (a : Option Addr) (n c : Nat) (bf : List Int) (bs : List Nat) (w : World) (hk : lblK d = true) (hP : Ints w a bf bs) (hn : bf.length = n) (hm : n ≤ 1048576) :
    Calls Try.prog 15 #[lbv d, .slice a n c] w fun e w' => e = .returned (.int .i64 (rkB bf d)) ∧ Bel w w' := by
  have hd := (lblK_out hk).2.2.2.2
  have hB := bel_alloc (Bel.refl w) (.cells #[.int .i64 d.id, .int .i64 d.x, .int .i64 d.y, .int .i64 d.wd, .int .i64 d.ht, .int .i64 d.rk] 33)
  have hP1 := hP.bel intE hB
  by_cases h : d.id ∈ bf
  · have HR : Hid (rkB bf d = d.rk + 50) := (by unfold rkB; rw [if_pos h] : rkB bf d = d.rk + 50)
    have hb : decide (d.id ∈ bf) = true := by simp [h]
    rw [HR.out]
    clear h
    go_enter Try.func15, Try.ntmps15
    go_wp2_with fail
    refine (lawHas_any a n c bf bs d.id _ hP1 hn hm).mono ?_
    rintro e w1 ⟨rfl, rfl⟩
    rw [hb]
    go_wp2
    go_ret
    exact ⟨rfl, hB⟩
  · have HR : Hid (rkB bf d = d.rk) := (by unfold rkB; rw [if_neg h] : rkB bf d = d.rk)
    have hb : decide (d.id ∈ bf) = false := by simp [h]
    rw [HR.out]
    clear h
    go_enter Try.func15, Try.ntmps15
    go_wp2_with fail
    refine (lawHas_any a n c bf bs d.id _ hP1 hn hm).mono ?_
    rintro e w1 ⟨rfl, rfl⟩
    rw [hb]
    go_wp2
    go_ret
    exact ⟨rfl, hB⟩
theorem lbls_none' : bP (lblsP []) = true := bP_true ⟨by simp, fun i h => by simp at h⟩
theorem stQ_three {l : List LblD} (hp : lblsP l) : stQ [l, l, l] = [plQ l [], plQ l [], plQ l []] := by
  have e1 : bfK [l, l, l] 1 = plQ l [] := rfl
  have e2 : bfK [l, l, l] 2 = plQ l [] := by
    show plQ l (plQ l []) = _
    exact pl_again hp
  have e3 : bfK [l, l, l] 3 = plQ l [] := by
    show plQ l (bfK [l, l, l] 2) = _
    rw [e2]; exact pl_again hp
  show (if [l, l, l].length ≤ 30 then stTo [l, l, l] [l, l, l].length else []) = _
  rw [if_pos (by simp)]
  show [bfK [l, l, l] 1, bfK [l, l, l] 2, bfK [l, l, l] 3] = _
  rw [e1, e2, e3]
/-- Label j is a reason why label i is not shown. -/
def WhyP (l : List LblD) (bf s : List Int) (i j : Nat) (hi : i < l.length) (hj : j < l.length) : Prop := l[j].id ∈ s ∧ ovQ l[i] l[j] = true ∧ rkB bf l[i] ≤ rkB bf l[j]

set_option maxRecDepth 100000 in
set_option maxHeartbeats 8000000 in
theorem lawFnLabels_any (a : Option Addr) (n c : Nat) (w : World) (hS : Bts w a n) (_hm : n ≤ 9223372036854775807) :
    Calls Try.prog 4 #[.slice a n c] w fun e w' => e = .returned (.bool true) ∧ Bel w w' := by
  by_cases hn : n ≤ 1048576
  · have hbig : decide (1048576 < (n : Int)) = false := by simp; omega
    go_enter Try.func4, Try.ntmps4
    go_wp2_with fail
    refine (big_any _ _ _ _).mono ?_
    rintro e w1 ⟨rfl, rfl⟩
    rw [hbig]
    clear hbig
    go_wp2_with fail
    refine (drawPlace_any _ _ _ _ hS hn).mono ?_
    rintro e w2 ⟨v, rfl, la, m, lc, l, lb, ia, q, ic, p, ib, rfl, hm, hq, hl, hT, hp, hI, B2⟩
    have Hl : Hid (l.length = m) := hl
    have Hp : Hid (p.length = q) := hp
    have hp5 : p.length ≤ 500 := by omega
    clear hl hp
    go_wp2_with fail
    refine (labelsOk_any _ 0 _ [] [] _ Sl.nil rfl (by omega)).mono ?_
    rintro e w3 ⟨rfl, b3⟩
    rw [lbls_none']
    have b3 := bel_step (bel_alloc (Bel.refl w2) _) b3
    have hT := hT.bel lblE b3
    have hI := hI.bel intE b3
    have B3 := bel_step B2 b3
    clear b3 B2
    go_wp2_with fail
    refine (place_any _ _ _ l lb _ _ _ p ib _ hT Hl.out (by omega) hI Hp.out (by omega)).mono ?_
    rintro e w4 ⟨a4, c4, b4, rfl, hJ, _, g4⟩
    have hT := hT.bel lblE g4
    have hI := hI.bel intE g4
    have B4 := bel_step B3 g4
    have hsl := plQ_len l p
    obtain ⟨s, Hs⟩ : ∃ s, Hid (plQ l p = s) := ⟨_, (rfl : plQ l p = _)⟩
    rw [Hs.out] at hJ hsl ⊢
    obtain ⟨k, Hk⟩ : ∃ k, Hid (s.length = k) := ⟨_, (rfl : s.length = _)⟩
    rw [Hk.out] at hsl ⊢
    clear g4 B3
    go_wp2_with fail
    refine (labelsOk_any _ _ _ l lb _ hT Hl.out (by omega)).mono ?_
    rintro e w5 ⟨rfl, g5⟩
    have hT := hT.bel lblE g5
    have hI := hI.bel intE g5
    have hJ := hJ.bel intE g5
    have B5 := bel_step B4 g5
    clear g5 B4
    rcases Bool.eq_false_or_eq_true (bP (lblsP l)) with hok | hok
    rotate_left
    · have HK0 : Hid (k = 0) := (by rw [← Hk.out, ← Hs.out, plQ_no hok]; rfl : k = 0)
      rw [hok]
      obtain rfl : k = 0 := HK0.out
      clear hT hI hJ hok
      go_wp2
      go_ret
      exact ⟨rfl, B5⟩
    have HP : Hid (lblsP l) := bP_out hok
    have HSP : Hid (spQ l s = true) := (by rw [← Hs.out]; exact pl_spaced HP.out : spQ l s = true)
    rw [hok]
    clear hok
    go_wp2_with fail
    refine (spaced_any _ _ _ l lb _ _ _ s b4 _ hT Hl.out (by omega) hJ Hk.out (by omega)).mono ?_
    rintro e w6 ⟨rfl, g6⟩
    rw [HSP.out]
    have HT : Hid (LblL w6 la l lb) := hT.bel lblE g6
    have HI : Hid (Ints w6 ia p ib) := hI.bel intE g6
    have HJ : Hid (Ints w6 a4 s b4) := hJ.bel intE g6
    have B6 := bel_step B5 g6
    clear g6 B5 hT hI hJ HSP
    go_wp2
    go_loopw [6] (fun ix wr => ∃ i : Nat, i ≤ m ∧ ix = .int .i64 i ∧ Bel w6 wr) (fun ix _ => m - (intOf ix).toNat)
    case atStart => exact ⟨0, Nat.zero_le _, rfl, Bel.refl _⟩
    case round =>
      obtain ⟨i, hi, rfl, hBr⟩ := hrel
      by_cases hlt : i < m
      · have hil : i < l.length := by rw [Hl.out]; exact hlt
        have hlt' : (i : Int) < (m : Int) := by omega
        obtain ⟨b, off, f, rfl, hb, hx⟩ := (HT.out.bel lblE hBr).out hil
        obtain ⟨_, _, _, _, _, _, _, c0, c1, c2, c3, c4', c5⟩ := hx i hil
        clear hx
        by_cases hin : l[i].id ∈ s
        · have hdec : decide (l[i].id ∈ s) = true := by simp [hin]
          clear hin
          go_wp2_with fail
          refine (lawHas_any _ _ _ s b4 _ _ (HJ.out.bel intE hBr) Hk.out (by omega)).mono ?_
          rintro e w7 ⟨rfl, rfl⟩
          rw [hdec]
          go_wp2
          go_roundw
          case rel => exact ⟨i + 1, by omega, by go_num, hBr⟩
          case measure => simp [intOf]; omega
        · have hdec : decide (l[i].id ∈ s) = false := by simp [hin]
          have HW : Hid (∃ j, ∃ hj : j < l.length, WhyP l p s i j hil hj) := by
            obtain ⟨e, he, h1, h2, h3⟩ := pl_why HP.out hp5 (List.getElem_mem hil) (by rw [Hs.out]; exact hin)
            obtain ⟨j, hj, rfl⟩ := List.getElem_of_mem he
            rw [Hs.out] at h1
            exact ⟨j, hj, h1, by unfold ovQ; rw [(HP.out.2 i hil).1, (HP.out.2 j hj).1, h2]; rfl, h3⟩
          clear hin
          go_wp2_with fail
          refine (lawHas_any _ _ _ s b4 _ _ (HJ.out.bel intE hBr) Hk.out (by omega)).mono ?_
          rintro e w7 ⟨rfl, rfl⟩
          rw [hdec]
          go_wp2
          go_loopw [7, 8] (fun y ix wr => ∃ (j : Nat) (t : Bool), j ≤ m ∧ ix = .int .i64 j ∧ y = .bool t ∧ Hid (∀ j' (h : j' < l.length), j' < j → WhyP l p s i j' hil h → t = true) ∧ Bel w6 wr) (fun _ ix _ => m - (intOf ix).toNat)
          case atStart => exact ⟨0, false, Nat.zero_le _, rfl, rfl, fun j' h hj => absurd hj (Nat.not_lt_zero _), hBr⟩
          case round =>
            obtain ⟨j, t, hj, rfl, rfl, HA, hBy⟩ := hrel
            clear c0 c1 c2 c3 c4' c5 hb
            by_cases hltj : j < m
            · have hjl : j < l.length := by rw [Hl.out]; exact hltj
              have hltj' : (j : Int) < (m : Int) := by omega
              cases t
              · have hKi := (HP.out.2 i hil).1
                have hKj := (HP.out.2 j hjl).1
                obtain ⟨b', off', f', eb, hb, hx⟩ := (HT.out.bel lblE hBy).out hjl
                injection eb with eb
                injection eb with e1 e2
                subst e1 e2
                obtain ⟨_, _, _, _, _, _, _, c0, c1, c2, c3, c4', c5⟩ := hx i hil
                obtain ⟨_, _, _, _, _, _, _, d0, d1, d2, d3, d4, d5⟩ := hx j hjl
                clear hx
                have hR : ∀ w', Bel wr w' → (w'.cell? ⟨b, off + i * 6, none⟩ = some (.int .i64 l[i].id) ∧ w'.cell? ⟨b, off + i * 6 + 1, none⟩ = some (.int .i64 l[i].x) ∧ w'.cell? ⟨b, off + i * 6 + 2, none⟩ = some (.int .i64 l[i].y) ∧ w'.cell? ⟨b, off + i * 6 + 3, none⟩ = some (.int .i64 l[i].wd) ∧ w'.cell? ⟨b, off + i * 6 + 4, none⟩ = some (.int .i64 l[i].ht) ∧ w'.cell? ⟨b, off + i * 6 + 5, none⟩ = some (.int .i64 l[i].rk)) ∧
                    (w'.cell? ⟨b, off + j * 6, none⟩ = some (.int .i64 l[j].id) ∧ w'.cell? ⟨b, off + j * 6 + 1, none⟩ = some (.int .i64 l[j].x) ∧ w'.cell? ⟨b, off + j * 6 + 2, none⟩ = some (.int .i64 l[j].y) ∧ w'.cell? ⟨b, off + j * 6 + 3, none⟩ = some (.int .i64 l[j].wd) ∧ w'.cell? ⟨b, off + j * 6 + 4, none⟩ = some (.int .i64 l[j].ht) ∧ w'.cell? ⟨b, off + j * 6 + 5, none⟩ = some (.int .i64 l[j].rk)) := fun w' h =>
                  ⟨⟨bel_cellM h hb c0, bel_cellM h hb c1, bel_cellM h hb c2, bel_cellM h hb c3, bel_cellM h hb c4', bel_cellM h hb c5⟩, bel_cellM h hb d0, bel_cellM h hb d1, bel_cellM h hb d2, bel_cellM h hb d3, bel_cellM h hb d4, bel_cellM h hb d5⟩
                obtain ⟨h1, Hh1⟩ : ∃ h1, Hid (decide (l[j].id ∈ s) = h1) := ⟨_, (rfl : decide (l[j].id ∈ s) = _)⟩
                obtain ⟨h2, Hh2⟩ : ∃ h2, Hid (ovQ l[i] l[j] = h2) := ⟨_, (rfl : ovQ l[i] l[j] = _)⟩
                obtain ⟨rj, Hrj⟩ : ∃ r, Hid (rkB p l[j] = r) := ⟨_, (rfl : rkB p l[j] = _)⟩
                obtain ⟨ri, Hri⟩ : ∃ r, Hid (rkB p l[i] = r) := ⟨_, (rfl : rkB p l[i] = _)⟩
                have hHas : ∀ w', Bel wr w' → Calls Try.prog 10 #[.slice a4 k c4, .int .i64 l[j].id] w' fun e w'' => e = .returned (.bool h1) ∧ w'' = w' := fun w' h => by
                  have := lawHas_any a4 k c4 s b4 l[j].id w' (HJ.out.bel intE (bel_step hBy h)) Hk.out (by omega)
                  rw [Hh1.out] at this
                  exact this
                have hOv : ∀ w', Bel wr w' → Calls Try.prog 14 #[lbv l[i], lbv l[j]] w' fun e w'' => e = .returned (.bool h2) ∧ Bel w' w'' := fun w' h => by
                  have := overlap_any l[i] l[j] w'
                  rw [Hh2.out] at this
                  exact this
                have hRj : ∀ w', Bel wr w' → Calls Try.prog 15 #[lbv l[j], .slice ia q ic] w' fun e w'' => e = .returned (.int .i64 rj) ∧ Bel w' w'' := fun w' h => by
                  have := rank_any l[j] ia q ic p ib w' hKj (HI.out.bel intE (bel_step hBy h)) Hp.out (by omega)
                  rw [Hrj.out] at this
                  exact this
                have hRi : ∀ w', Bel wr w' → Calls Try.prog 15 #[lbv l[i], .slice ia q ic] w' fun e w'' => e = .returned (.int .i64 ri) ∧ Bel w' w'' := fun w' h => by
                  have := rank_any l[i] ia q ic p ib w' hKi (HI.out.bel intE (bel_step hBy h)) Hp.out (by omega)
                  rw [Hri.out] at this
                  exact this
                have g0 : Bel wr wr := Bel.refl _
                clear hb c0 c1 c2 c3 c4' c5 d0 d1 d2 d3 d4 d5
                cases h1
                · have HA' : Hid (∀ j' (h : j' < l.length), j' < j + 1 → WhyP l p s i j' hil h → false = true) := fun j' h hj' hw => by
                    by_cases e : j' = j
                    · subst e
                      have := Hh1.out
                      rw [decide_eq_false_iff_not] at this
                      exact absurd hw.1 this
                    · exact HA.out j' h (by omega) hw
                  go_wp2
                  refine wp_region_noPanic ?_
                  refine wp_region_held_drew (S := fun w' => Bel wr w') (by kernel_rfl) (Bel.drew g0) (fun hHeld => ?_)
                  refine tk 0 hHeld ?_; refine tk 1 hHeld ?_; refine tk 2 hHeld ?_; refine tk 3 hHeld ?_; refine tk 4 hHeld ?_
                  refine tk 5 hHeld ?_; refine tk 6 hHeld ?_; refine tk 7 hHeld ?_
                  refine rd1 8 (fun K hK => ?_)
                  go_simp
                  refine (hHas _ hHeld).mono ?_
                  rintro e wc ⟨rfl, rfl⟩
                  go_wp2_with fail
                  refine hK.out _ _ hHeld (fun hHeld' => ?_)
                  clear hK K hHeld
                  have hHeld := hHeld'
                  clear hHeld'
                  try simp only [Act.put, List.setIfInBounds_toArray, List.set_cons_zero, List.set_cons_succ]
                  refine tk 9 hHeld ?_
                  refine sk 10 hHeld ?_; refine sk 11 hHeld ?_; refine sk 12 hHeld ?_; refine sk 13 hHeld ?_; refine sk 14 hHeld ?_
                  refine sk 15 hHeld ?_; refine sk 16 hHeld ?_; refine sk 17 hHeld ?_; refine sk 18 hHeld ?_
                  refine tk 19 hHeld ?_; refine tk 20 hHeld ?_
                  refine sk 21 hHeld ?_; refine sk 22 hHeld ?_; refine sk 23 hHeld ?_; refine sk 24 hHeld ?_; refine sk 25 hHeld ?_
                  refine sk 26 hHeld ?_; refine sk 27 hHeld ?_; refine sk 28 hHeld ?_; refine sk 29 hHeld ?_; refine sk 30 hHeld ?_
                  refine sk 31 hHeld ?_; refine sk 32 hHeld ?_; refine sk 33 hHeld ?_
                  refine tk 34 hHeld ?_; refine tk 35 hHeld ?_; refine tk 36 hHeld ?_
                  refine wpAnyH_done (by kernel_rfl) ?_ _
                  refine NoPanic.normal ?_
                  go_wp2
                  go_roundw
                  case rel => exact ⟨j + 1, false, by omega, by go_num, rfl, HA'.out, bel_step hBy hHeld⟩
                  case measure => simp [intOf]; omega
                · cases h2
                  · have HA' : Hid (∀ j' (h : j' < l.length), j' < j + 1 → WhyP l p s i j' hil h → false = true) := fun j' h hj' hw => by
                      by_cases e : j' = j
                      · subst e
                        have := Hh2.out
                        rw [hw.2.1] at this
                        exact this.symm
                      · exact HA.out j' h (by omega) hw
                    go_wp2
                    refine wp_region_noPanic ?_
                    refine wp_region_held_drew (S := fun w' => Bel wr w') (by kernel_rfl) (Bel.drew g0) (fun hHeld => ?_)
                    refine tk 0 hHeld ?_; refine tk 1 hHeld ?_; refine tk 2 hHeld ?_; refine tk 3 hHeld ?_; refine tk 4 hHeld ?_
                    refine tk 5 hHeld ?_; refine tk 6 hHeld ?_; refine tk 7 hHeld ?_
                    refine rd1 8 (fun K hK => ?_)
                    go_simp
                    refine (hHas _ hHeld).mono ?_
                    rintro e wc ⟨rfl, rfl⟩
                    go_wp2_with fail
                    refine hK.out _ _ hHeld (fun hHeld' => ?_)
                    clear hK K hHeld
                    have hHeld := hHeld'
                    clear hHeld'
                    try simp only [Act.put, List.setIfInBounds_toArray, List.set_cons_zero, List.set_cons_succ]
                    refine tk 9 hHeld ?_
                    refine tk 10 hHeld ?_; refine tk 11 hHeld ?_; refine tk 12 hHeld ?_; refine tk 13 hHeld ?_; refine tk 14 hHeld ?_
                    refine tk 15 hHeld ?_; refine tk 16 hHeld ?_; refine tk 17 hHeld ?_
                    refine rd1 18 (fun K hK => ?_)
                    go_simp
                    refine (hOv _ hHeld).mono ?_
                    rintro e wc ⟨rfl, hbk⟩
                    go_wp2_with fail
                    refine hK.out _ _ (bel_step hHeld hbk) (fun hHeld' => ?_)
                    clear hK K hHeld
                    have hHeld := hHeld'
                    clear hHeld'
                    try simp only [Act.put, List.setIfInBounds_toArray, List.set_cons_zero, List.set_cons_succ]
                    refine tk 19 hHeld ?_; refine tk 20 hHeld ?_
                    refine sk 21 hHeld ?_; refine sk 22 hHeld ?_; refine sk 23 hHeld ?_; refine sk 24 hHeld ?_; refine sk 25 hHeld ?_
                    refine sk 26 hHeld ?_; refine sk 27 hHeld ?_; refine sk 28 hHeld ?_; refine sk 29 hHeld ?_; refine sk 30 hHeld ?_
                    refine sk 31 hHeld ?_; refine sk 32 hHeld ?_; refine sk 33 hHeld ?_
                    refine tk 34 hHeld ?_; refine tk 35 hHeld ?_; refine tk 36 hHeld ?_
                    refine wpAnyH_done (by kernel_rfl) ?_ _
                    refine NoPanic.normal ?_
                    go_wp2
                    go_roundw
                    case rel => exact ⟨j + 1, false, by omega, by go_num, rfl, HA'.out, bel_step hBy hHeld⟩
                    case measure => simp [intOf]; omega
                  · by_cases hge : rj ≥ ri
                    · go_wp2
                      refine wp_region_noPanic ?_
                      refine wp_region_held_drew (S := fun w' => Bel wr w') (by kernel_rfl) (Bel.drew g0) (fun hHeld => ?_)
                      refine tk 0 hHeld ?_; refine tk 1 hHeld ?_; refine tk 2 hHeld ?_; refine tk 3 hHeld ?_; refine tk 4 hHeld ?_
                      refine tk 5 hHeld ?_; refine tk 6 hHeld ?_; refine tk 7 hHeld ?_
                      refine rd1 8 (fun K hK => ?_)
                      go_simp
                      refine (hHas _ hHeld).mono ?_
                      rintro e wc ⟨rfl, rfl⟩
                      go_wp2_with fail
                      refine hK.out _ _ hHeld (fun hHeld' => ?_)
                      clear hK K hHeld
                      have hHeld := hHeld'
                      clear hHeld'
                      try simp only [Act.put, List.setIfInBounds_toArray, List.set_cons_zero, List.set_cons_succ]
                      refine tk 9 hHeld ?_
                      refine tk 10 hHeld ?_; refine tk 11 hHeld ?_; refine tk 12 hHeld ?_; refine tk 13 hHeld ?_; refine tk 14 hHeld ?_
                      refine tk 15 hHeld ?_; refine tk 16 hHeld ?_; refine tk 17 hHeld ?_
                      refine rd1 18 (fun K hK => ?_)
                      go_simp
                      refine (hOv _ hHeld).mono ?_
                      rintro e wc ⟨rfl, hbk⟩
                      go_wp2_with fail
                      refine hK.out _ _ (bel_step hHeld hbk) (fun hHeld' => ?_)
                      clear hK K hHeld
                      have hHeld := hHeld'
                      clear hHeld'
                      try simp only [Act.put, List.setIfInBounds_toArray, List.set_cons_zero, List.set_cons_succ]
                      refine tk 19 hHeld ?_; refine tk 20 hHeld ?_
                      refine tk 21 hHeld ?_; refine tk 22 hHeld ?_; refine tk 23 hHeld ?_; refine tk 24 hHeld ?_; refine tk 25 hHeld ?_
                      refine tk 27 hHeld ?_; refine tk 28 hHeld ?_; refine tk 29 hHeld ?_; refine tk 30 hHeld ?_; refine tk 31 hHeld ?_
                      refine rd1 26 (fun K hK => ?_)
                      go_simp
                      refine (hRj _ hHeld).mono ?_
                      rintro e wc ⟨rfl, hbk⟩
                      go_wp2_with fail
                      refine hK.out _ _ (bel_step hHeld hbk) (fun hHeld' => ?_)
                      clear hK K hHeld
                      have hHeld := hHeld'
                      clear hHeld'
                      try simp only [Act.put, List.setIfInBounds_toArray, List.set_cons_zero, List.set_cons_succ]
                      refine rd1 32 (fun K hK => ?_)
                      go_simp
                      refine (hRi _ hHeld).mono ?_
                      rintro e wc ⟨rfl, hbk⟩
                      go_wp2_with fail
                      refine hK.out _ _ (bel_step hHeld hbk) (fun hHeld' => ?_)
                      clear hK K hHeld
                      have hHeld := hHeld'
                      clear hHeld'
                      try simp only [Act.put, List.setIfInBounds_toArray, List.set_cons_zero, List.set_cons_succ]
                      refine tk 33 hHeld ?_; refine tk 34 hHeld ?_; refine tk 35 hHeld ?_; refine tk 36 hHeld ?_
                      refine wpAnyH_done (by kernel_rfl) ?_ _
                      refine NoPanic.normal ?_
                      go_wp2
                      go_roundw
                      case rel => exact ⟨j + 1, true, by omega, by go_num, rfl, fun _ _ _ _ => rfl, bel_step hBy hHeld⟩
                      case measure => simp [intOf]; omega
                    · have HA' : Hid (∀ j' (h : j' < l.length), j' < j + 1 → WhyP l p s i j' hil h → false = true) := fun j' h hj' hw => by
                        by_cases e : j' = j
                        · subst e
                          have := hw.2.2
                          rw [Hri.out, Hrj.out] at this
                          omega
                        · exact HA.out j' h (by omega) hw
                      go_wp2
                      refine wp_region_noPanic ?_
                      refine wp_region_held_drew (S := fun w' => Bel wr w') (by kernel_rfl) (Bel.drew g0) (fun hHeld => ?_)
                      refine tk 0 hHeld ?_; refine tk 1 hHeld ?_; refine tk 2 hHeld ?_; refine tk 3 hHeld ?_; refine tk 4 hHeld ?_
                      refine tk 5 hHeld ?_; refine tk 6 hHeld ?_; refine tk 7 hHeld ?_
                      refine rd1 8 (fun K hK => ?_)
                      go_simp
                      refine (hHas _ hHeld).mono ?_
                      rintro e wc ⟨rfl, rfl⟩
                      go_wp2_with fail
                      refine hK.out _ _ hHeld (fun hHeld' => ?_)
                      clear hK K hHeld
                      have hHeld := hHeld'
                      clear hHeld'
                      try simp only [Act.put, List.setIfInBounds_toArray, List.set_cons_zero, List.set_cons_succ]
                      refine tk 9 hHeld ?_
                      refine tk 10 hHeld ?_; refine tk 11 hHeld ?_; refine tk 12 hHeld ?_; refine tk 13 hHeld ?_; refine tk 14 hHeld ?_
                      refine tk 15 hHeld ?_; refine tk 16 hHeld ?_; refine tk 17 hHeld ?_
                      refine rd1 18 (fun K hK => ?_)
                      go_simp
                      refine (hOv _ hHeld).mono ?_
                      rintro e wc ⟨rfl, hbk⟩
                      go_wp2_with fail
                      refine hK.out _ _ (bel_step hHeld hbk) (fun hHeld' => ?_)
                      clear hK K hHeld
                      have hHeld := hHeld'
                      clear hHeld'
                      try simp only [Act.put, List.setIfInBounds_toArray, List.set_cons_zero, List.set_cons_succ]
                      refine tk 19 hHeld ?_; refine tk 20 hHeld ?_
                      refine tk 21 hHeld ?_; refine tk 22 hHeld ?_; refine tk 23 hHeld ?_; refine tk 24 hHeld ?_; refine tk 25 hHeld ?_
                      refine tk 27 hHeld ?_; refine tk 28 hHeld ?_; refine tk 29 hHeld ?_; refine tk 30 hHeld ?_; refine tk 31 hHeld ?_
                      refine rd1 26 (fun K hK => ?_)
                      go_simp
                      refine (hRj _ hHeld).mono ?_
                      rintro e wc ⟨rfl, hbk⟩
                      go_wp2_with fail
                      refine hK.out _ _ (bel_step hHeld hbk) (fun hHeld' => ?_)
                      clear hK K hHeld
                      have hHeld := hHeld'
                      clear hHeld'
                      try simp only [Act.put, List.setIfInBounds_toArray, List.set_cons_zero, List.set_cons_succ]
                      refine rd1 32 (fun K hK => ?_)
                      go_simp
                      refine (hRi _ hHeld).mono ?_
                      rintro e wc ⟨rfl, hbk⟩
                      go_wp2_with fail
                      refine hK.out _ _ (bel_step hHeld hbk) (fun hHeld' => ?_)
                      clear hK K hHeld
                      have hHeld := hHeld'
                      clear hHeld'
                      try simp only [Act.put, List.setIfInBounds_toArray, List.set_cons_zero, List.set_cons_succ]
                      refine tk 33 hHeld ?_; refine tk 34 hHeld ?_; refine tk 35 hHeld ?_; refine tk 36 hHeld ?_
                      refine wpAnyH_done (by kernel_rfl) ?_ _
                      refine NoPanic.normal ?_
                      go_wp2
                      go_roundw
                      case rel => exact ⟨j + 1, false, by omega, by go_num, congrArg Value.bool (decide_eq_false (by omega)), HA'.out, bel_step hBy hHeld⟩
                      case measure => simp [intOf]; omega
              · have g0 : Bel wr wr := Bel.refl _
                go_wp2
                refine wp_region_noPanic ?_
                refine wp_region_held_drew (S := fun w' => Bel wr w') (by kernel_rfl) (Bel.drew g0) (fun hHeld => ?_)
                refine tk 0 hHeld ?_; refine tk 1 hHeld ?_
                refine sk 2 hHeld ?_; refine sk 3 hHeld ?_; refine sk 4 hHeld ?_; refine sk 5 hHeld ?_; refine sk 6 hHeld ?_
                refine sk 7 hHeld ?_; refine sk 8 hHeld ?_; refine sk 9 hHeld ?_; refine sk 10 hHeld ?_; refine sk 11 hHeld ?_
                refine sk 12 hHeld ?_; refine sk 13 hHeld ?_; refine sk 14 hHeld ?_; refine sk 15 hHeld ?_; refine sk 16 hHeld ?_
                refine sk 17 hHeld ?_; refine sk 18 hHeld ?_; refine sk 19 hHeld ?_; refine sk 20 hHeld ?_; refine sk 21 hHeld ?_
                refine sk 22 hHeld ?_; refine sk 23 hHeld ?_; refine sk 24 hHeld ?_; refine sk 25 hHeld ?_; refine sk 26 hHeld ?_
                refine sk 27 hHeld ?_; refine sk 28 hHeld ?_; refine sk 29 hHeld ?_; refine sk 30 hHeld ?_; refine sk 31 hHeld ?_
                refine sk 32 hHeld ?_; refine sk 33 hHeld ?_; refine sk 34 hHeld ?_
                refine tk 35 hHeld ?_; refine tk 36 hHeld ?_
                refine wpAnyH_done (by kernel_rfl) ?_ _
                refine NoPanic.normal ?_
                go_wp2
                go_roundw
                case rel => exact ⟨j + 1, true, by omega, by go_num, rfl, fun _ _ _ _ => rfl, bel_step hBy hHeld⟩
                case measure => simp [intOf]; omega
            · have e : j = m := by omega
              have HT1 : Hid (t = true) := by
                obtain ⟨j', h, hw⟩ := HW.out
                exact HA.out j' h (by rw [e, ← Hl.out]; exact h) hw
              obtain rfl : t = true := HT1.out
              subst e
              go_wp2
              go_roundw
              case rel => exact ⟨i + 1, by omega, by go_num, hBy⟩
              case measure => simp [intOf]; omega
      · obtain rfl : i = m := by omega
        obtain ⟨V, HV⟩ : ∃ V, Hid (V = wr.alloc (.cells #[.slice la i lc, .slice la i lc, .slice la i lc] 24)) := ⟨_, (rfl : wr.alloc (.cells #[.slice la i lc, .slice la i lc, .slice la i lc] 24) = _)⟩
        have hbV : Bel wr V := by rw [HV.out]; exact bel_alloc (Bel.refl _) _
        have HTV : LblL V la l lb := HT.out.bel lblE (bel_step hBr hbV)
        have B7 := bel_step B6 (bel_step hBr hbV)
        have hlm : l.length ≤ 500 := HP.out.1
        have HLS : ∃ bs3, LsL V (some ⟨wr.heap.size, 0, none⟩) [l, l, l] bs3 := by
          refine ⟨_, (.inr ⟨wr.heap.size, 0, fun _ => lb, rfl, ?_, rfl, fun k hk => ?_⟩ : LsL V (some ⟨wr.heap.size, 0, none⟩) [l, l, l] _)⟩
          · rw [HV.out]; simp
          · have h3 : k = 0 ∨ k = 1 ∨ k = 2 := by simp at hk; omega
            rcases h3 with rfl | rfl | rfl
            · exact ⟨la, lc, by show l.length ≤ _; unfold maxLen; omega, by show _ = some (Value.slice la l.length lc); rw [HV.out, Hl.out]; simp [go_sem], HTV⟩
            · exact ⟨la, lc, by show l.length ≤ _; unfold maxLen; omega, by show _ = some (Value.slice la l.length lc); rw [HV.out, Hl.out]; simp [go_sem], HTV⟩
            · exact ⟨la, lc, by show l.length ≤ _; unfold maxLen; omega, by show _ = some (Value.slice la l.length lc); rw [HV.out, Hl.out]; simp [go_sem], HTV⟩
        obtain ⟨bs3, HLS⟩ := HLS
        have hGl0 := plQ_len l []
        obtain ⟨G, HG⟩ : ∃ G, Hid (plQ l [] = G) := ⟨_, (rfl : plQ l [] = _)⟩
        obtain ⟨gk, HGk⟩ : ∃ gk, Hid (G.length = gk) := ⟨_, (rfl : G.length = _)⟩
        rw [HG.out, HGk.out] at hGl0
        obtain ⟨D, HD⟩ : ∃ D, Hid (stQ [l, l, l] = D) := ⟨_, (rfl : stQ [l, l, l] = _)⟩
        have HDG : D = [G, G, G] := by rw [← HD.out, ← HG.out]; exact stQ_three HP.out
        have HD3 : Hid (D.length = 3) := (by rw [HDG]; rfl : D.length = 3)
        go_wp2_with fail
        rw [← HV.out]
        refine (steady_any _ 3 _ [l, l, l] bs3 V HLS rfl (by omega) (fun d hd => by simp at hd; subst hd; omega)).mono ?_
        rintro e w8 h8
        obtain ⟨a8, c8, b8, rfl, hZ, _, g8⟩ := h8
        rw [HD.out] at hZ ⊢
        rw [HD3.out]
        subst HDG
        obtain ⟨gb, go, gf, rfl, hgb, hx⟩ := hZ.out (k := 0) (by simp)
        obtain ⟨x0, y0, _, d0, t0⟩ := hx 0 (by simp)
        obtain ⟨x1, y1, _, d1, t1⟩ := hx 1 (by simp)
        obtain ⟨x2, y2, _, d2, t2⟩ := hx 2 (by simp)
        have d0 : w8.cell? ⟨gb, go, none⟩ = some (.slice x0 gk y0) := by rw [← HGk.out]; exact d0
        have d1 : w8.cell? ⟨gb, go + 1, none⟩ = some (.slice x1 gk y1) := by rw [← HGk.out]; exact d1
        have d2 : w8.cell? ⟨gb, go + 2, none⟩ = some (.slice x2 gk y2) := by rw [← HGk.out]; exact d2
        have hR8 : ∀ w', Bel w8 w' → w'.cell? ⟨gb, go, none⟩ = some (.slice x0 gk y0) ∧ w'.cell? ⟨gb, go + 1, none⟩ = some (.slice x1 gk y1) ∧ w'.cell? ⟨gb, go + 2, none⟩ = some (.slice x2 gk y2) := fun w' h => ⟨bel_cellM h hgb d0, bel_cellM h hgb d1, bel_cellM h hgb d2⟩
        have T0 : Ints w8 x0 G (gf 0) := t0
        have T1 : Ints w8 x1 G (gf 1) := t1
        have T2 : Ints w8 x2 G (gf 2) := t2
        have TL : LblL w8 la l lb := HTV.bel lblE g8
        have B8 := bel_step B7 g8
        have g0 : Bel w8 w8 := Bel.refl _
        clear hx t0 t1 t2 d0 d1 d2 HTV HLS hbV g8 hZ HV hgb
        go_wp2
        refine wp_region_noPanic ?_
        refine wp_region_held_drew (S := fun w' => Bel w8 w') (by kernel_rfl) (Bel.drew g0) (fun hHeld => ?_)
        refine tk 0 hHeld ?_; refine tk 1 hHeld ?_; refine tk 2 hHeld ?_; refine tk 3 hHeld ?_; refine tk 4 hHeld ?_
        refine tk 5 hHeld ?_; refine tk 6 hHeld ?_; refine tk 7 hHeld ?_; refine tk 8 hHeld ?_; refine tk 9 hHeld ?_
        refine rd1 10 (fun K hK => ?_)
        go_simp
        refine (lawSameInts_any _ _ gk gk _ _ G G _ _ _ (T1.bel intE hHeld) (T2.bel intE hHeld) HGk.out HGk.out (by omega)).mono ?_
        rintro e wc ⟨tb, rfl, htb, hbk⟩
        obtain rfl := htb rfl
        go_wp2_with fail
        refine hK.out _ _ (bel_step hHeld hbk) (fun hHeld' => ?_)
        clear hK K hHeld
        have hHeld := hHeld'
        clear hHeld'
        try simp only [Act.put, List.setIfInBounds_toArray, List.set_cons_zero, List.set_cons_succ]
        refine tk 11 hHeld ?_; refine tk 12 hHeld ?_; refine tk 13 hHeld ?_; refine tk 14 hHeld ?_; refine tk 15 hHeld ?_
        refine tk 16 hHeld ?_
        refine rd1 17 (fun K hK => ?_)
        go_simp
        refine hK.out _ _ (bel_alloc hHeld _) (fun hHeld' => ?_)
        clear hK K hHeld
        have hHeld := hHeld'
        clear hHeld'
        try simp only [Act.put, List.setIfInBounds_toArray, List.set_cons_zero, List.set_cons_succ]
        refine rd1 18 (fun K hK => ?_)
        go_simp
        refine (place_any _ _ _ l lb _ 0 0 [] [] _ (TL.bel lblE hHeld) Hl.out (by omega) Sl.nil rfl (by omega)).mono ?_
        rintro e wq ⟨aq, cq, bq, rfl, Iq, _, hbk⟩
        rw [HG.out] at Iq
        rw [HG.out, HGk.out]
        go_wp2_with fail
        refine hK.out _ _ (bel_step hHeld hbk) (fun hHeld' => ?_)
        clear hK K hHeld
        have hHeld := hHeld'
        clear hHeld'
        try simp only [Act.put, List.setIfInBounds_toArray, List.set_cons_zero, List.set_cons_succ]
        refine rd1 19 (fun K hK => ?_)
        go_simp
        refine (lawSameInts_any _ _ gk gk _ _ G G _ _ _ (T0.bel intE hHeld) Iq HGk.out HGk.out (by omega)).mono ?_
        rintro e wc ⟨tb, rfl, htb, hbk⟩
        obtain rfl := htb rfl
        go_wp2_with fail
        refine hK.out _ _ (bel_step hHeld hbk) (fun hHeld' => ?_)
        clear hK K hHeld
        have hHeld := hHeld'
        clear hHeld'
        try simp only [Act.put, List.setIfInBounds_toArray, List.set_cons_zero, List.set_cons_succ]
        refine tk 20 hHeld ?_; refine tk 21 hHeld ?_; refine tk 22 hHeld ?_; refine tk 23 hHeld ?_; refine tk 24 hHeld ?_
        refine tk 25 hHeld ?_; refine tk 26 hHeld ?_; refine tk 27 hHeld ?_
        refine rd1 28 (fun K hK => ?_)
        go_simp
        refine (lawSameInts_any _ _ gk gk _ _ G G _ _ _ (T0.bel intE hHeld) (T1.bel intE hHeld) HGk.out HGk.out (by omega)).mono ?_
        rintro e wc ⟨tb, rfl, htb, hbk⟩
        obtain rfl := htb rfl
        go_wp2_with fail
        refine hK.out _ _ (bel_step hHeld hbk) (fun hHeld' => ?_)
        clear hK K hHeld
        have hHeld := hHeld'
        clear hHeld'
        try simp only [Act.put, List.setIfInBounds_toArray, List.set_cons_zero, List.set_cons_succ]
        refine tk 29 hHeld ?_; refine tk 30 hHeld ?_
        refine wpAnyH_done (by kernel_rfl) ?_ _
        refine NoPanic.normal ?_
        go_wp2
        go_ret
        exact ⟨rfl, bel_step B8 hHeld⟩
  · have hbig : decide (1048576 < (n : Int)) = true := by simp; omega
    go_enter Try.func4, Try.ntmps4
    go_wp2_with fail
    refine (big_any _ _ _ _).mono ?_
    rintro e w1 ⟨rfl, rfl⟩
    rw [hbig]
    clear hbig
    go_wp2
    go_ret
    exact ⟨rfl, Bel.refl _⟩
end Go.Proofs.Ytpbpnkklnbmkeaa
