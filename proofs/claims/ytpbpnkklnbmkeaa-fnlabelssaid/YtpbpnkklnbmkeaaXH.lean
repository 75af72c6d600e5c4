/-
  Whether a room is free.
  The grid of rooms while a room is being put into it.
  The grid of rooms once a room is put into it.
  A room is put into the grid: the program's contract.
-/
import Derived.Test.YtpbpnkklnbmkeaaGrdG
import Derived.Test.YtpbpnkklnbmkeaaLblC
import Derived.Deep.RegionLaw
namespace Go.Proofs.Ytpbpnkklnbmkeaa
open Go.RowKit Go.Maps

theorem Sl.keptO {α : Type} {q : Nat} {E : Elem α} (hE : Stays q E) {w w' : World} {row : Option Nat} {a : Option Addr} {l : List α} {bs : List Nat} (h : Sl q E w a l bs) (hg : w.grownBy w' row) (hn : ∀ x ∈ bs, row ≠ some x) : Sl q E w' a l bs :=
  h.alike hE fun b hb => by
    have hl := h.lt hE b hb
    have e := hg.block b hl (fun e => hn b hb e.symm)
    exact ⟨Nat.lt_of_lt_of_le hl hg.size, fun o => World.cell?_of_block e, fun o => World.frozen?_of_block e⟩
/-- The room whose number this is does not meet the room. -/
def NoM (rs : List RmD) (p : RmD) (i : Nat) : Prop := ∀ h : i < rs.length, mtB p rs[i] = false
def Off (rs : List RmD) (p : RmD) (bl : List Bool) : Prop := ∀ i, bl[i]? = some true → NoM rs p i
theorem frB_true {rs : List RmD} {p : RmD} (h : ∀ i, NoM rs p i) : frB rs p = true := by
  unfold frB
  rw [List.all_eq_true]
  intro o ho
  obtain ⟨i, hi, rfl⟩ := List.mem_iff_getElem.1 ho
  rw [h i hi]; rfl
theorem frB_false {rs : List RmD} {p : RmD} {i : Nat} (hi : i < rs.length) (h : mtB p rs[i] = true) : frB rs p = false := by
  unfold frB
  rw [List.all_eq_false]
  exact ⟨rs[i], List.getElem_mem hi, by rw [h]; decide⟩
structure FrOut (N0 : Nat) (w : World) (rs : List RmD) (p : RmD) (va : Value) (e : Ending) (w' : World) : Prop where
  out : ∃ bl : List Bool, e = .returned (.bool (frB rs p)) ∧ w'.ownsRow N0 4 1 va rs.length (bl.map Value.bool) ∧ w.grownBy w' va.ownBlock

theorem own_bool {w : World} {base g n cap : Nat} {bl : List Bool} (h : w.ownsRow base 4 1 (.slice (some ⟨g, 0, none⟩) n cap) n (bl.map Value.bool)) {i : Nat} (hi : i < n) : ∃ x, bl[i]? = some x ∧ w.cell? ⟨g, i, none⟩ = some (.bool x) := by
  have hl : bl.length = n := by have := own_len h; simpa using this
  refine ⟨bl[i], List.getElem?_eq_getElem (by omega), ?_⟩
  rw [h.cellAt i (by omega), List.getElem?_map, List.getElem?_eq_getElem (by omega)]; rfl
theorem Off.set {rs : List RmD} {p : RmD} {bl : List Bool} {i : Nat} (h : Off rs p bl) (hi : NoM rs p i) : Off rs p (bl.set i true) := fun j hj => by
  rw [List.getElem?_set] at hj
  split at hj
  · rename_i e; subst e; exact hi
  · exact h j hj
set_option maxRecDepth 100000 in
set_option maxHeartbeats 4000000 in
theorem free_any (N0 G M : Nat) (X : Nat → Prop) (rs : List RmD) (n : Nat) (q : GD) (p : RmD) (sa : Option Addr) (ns sc : Nat) (L : List SqD) (cs : List Nat) (w : World) (hG : Grid N0 G M X w rs n q) (hp : RmP p) (hT : SqsL w sa L cs) (hL : L.length = ns) (hm : ns ≤ 1048576)
    (hcs : ∀ x ∈ cs, q.va.ownBlock ≠ some x) (hall : ∀ s ∈ rmS p, s ∈ L) (hn : n ≤ 1048576) (hrs : rs.length ≤ 1048576) :
    Calls Try.prog 60 #[.pointer (some ⟨G, 0, none⟩), rmV p, .slice sa ns sc] w fun e w' => FrOut N0 w rs p q.va e w' := by
  obtain ⟨b, Hb⟩ : ∃ b, Hid (b = w.alloc (.cells #[.int .i64 p.a, .int .i64 p.b, .int .i64 p.c, .int .i64 p.d] 70)) := ⟨_, (rfl : w.alloc (.cells #[.int .i64 p.a, .int .i64 p.b, .int .i64 p.c, .int .i64 p.d] 70) = _)⟩
  have hwb : Bel w b := by rw [Hb.out]; exact bel_alloc (Bel.refl _) _
  have Xb : Blk b w.heap.size [.int .i64 p.a, .int .i64 p.b, .int .i64 p.c, .int .i64 p.d] := by rw [Hb.out]; exact Blk.new w [.int .i64 p.a, .int .i64 p.b, .int .i64 p.c, .int .i64 p.d] _
  have hGb := hG.bel hwb
  obtain ⟨w1, hcl, ho1, hg1⟩ := clear_any hGb.asked
  have HL : Hid (L.length = ns) := hL
  have hvw : ∀ x, q.va.ownBlock = some x → x < w.heap.size := fun x hx => (hG.asked.lt x hx).2
  have hwv : some w.heap.size ≠ q.va.ownBlock := fun e => by have := hvw _ e.symm; omega
  have HG : Hid (Grid N0 G M X b rs n q) := hGb
  have hTb := hT.bel sqE hwb
  have HO : Hid (Off rs p (List.replicate rs.length false)) := fun i hi => by
    obtain ⟨_, e⟩ := List.getElem?_eq_some_iff.1 hi
    simp at e
  have x2 : w.cell? ⟨G, 2, none⟩ = some q.va := hG.box.cell 2 (by simp)
  have hGl := hG.box.lt
  rw [Hb.out] at hcl
  clear hL hG hGb hT
  go_enter Try.func60, Try.ntmps60
  go_wp2
  go_loopw [17] (fun i wr => ∃ (k : Nat) (bl : List Bool), k ≤ ns ∧ i = .int .i64 k ∧ wr.ownsRow N0 4 1 q.va rs.length (bl.map Value.bool) ∧ b.grownBy wr q.va.ownBlock ∧ Off rs p bl ∧ ∀ s ∈ L.take k, ∀ i ∈ q.I s.c s.r, NoM rs p i) (fun i _ => ns - (intOf i).toNat)
  case atStart => exact ⟨0, _, Nat.zero_le _, rfl, ho1, hg1, HO.out, fun s hs => by simp at hs⟩
  case round =>
    clear ho1 hg1 HO hcl x2
    obtain ⟨k, bl, hk, rfl, hor, hgr, hof, hdone⟩ := hrel
    have HDone : Hid (∀ s ∈ L.take k, ∀ i ∈ q.I s.c s.r, NoM rs p i) := hdone
    have HOf : Hid (Off rs p bl) := hof
    clear hdone hof
    by_cases hlt : k < ns
    · have hkl : k < L.length := by rw [HL.out]; exact hlt
      obtain ⟨bb, off, f, rfl, hbb, hx⟩ := (hTb.keptO sqE hgr hcs).out hkl
      obtain ⟨_, j0, j1, c0, c1⟩ := hx k hkl
      obtain ⟨s, Hs⟩ : ∃ s, Hid (s = L[k]) := ⟨_, (rfl : L[k] = _)⟩
      rw [← Hs.out] at c0 c1 j0 j1
      obtain ⟨U, HU⟩ : ∃ U, Hid (U = wr.alloc (.cells #[.int .i64 s.c, .int .i64 s.r] 101)) := ⟨_, (rfl : wr.alloc (.cells #[.int .i64 s.c, .int .i64 s.r] 101) = _)⟩
      have hgrU : b.grownBy U q.va.ownBlock := by rw [HU.out]; exact hgr.trans (World.grownBy_alloc _ _ _)
      have horU : U.ownsRow N0 4 1 q.va rs.length (bl.map Value.bool) := by rw [HU.out]; exact hor.alloc _
      have hGU := HG.out.marks hgrU horU
      have hlook := (hGU.map.same (w' := U.drew) rfl).look j0 j1
      obtain ⟨ia, ic, hV⟩ := own_shape (hGU.rows s.c s.r)
      rw [hV] at hlook
      have hIl := hGU.len s.c s.r
      have m0 : U.cell? ⟨G, 1, none⟩ = some (.map (some M)) := hGU.box.cell 1 (by simp)
      have hGU0 := hGU.box.lt
      have XU : Blk U wr.heap.size [.int .i64 s.c, .int .i64 s.r] := by rw [HU.out]; exact Blk.new wr [.int .i64 s.c, .int .i64 s.r] _
      have e0 : U.cell? ⟨wr.heap.size, 0, none⟩ = some (.int .i64 s.c) := XU.cell 0 (by simp)
      have e1 : U.cell? ⟨wr.heap.size, 1, none⟩ = some (.int .i64 s.r) := XU.cell 1 (by simp)
      have HGU : Hid (Grid N0 G M X U rs n { q with bl := bl }) := hGU
      unfold sqV at hlook
      clear hx hTb hor hgr hGU XU
      go_wp2
      rw [← HU.out]
      go_region_held3 (fun w' => w'.cell? ⟨G, 1, none⟩ = some (.map (some M)) ∧ w'.cell? ⟨wr.heap.size, 0, none⟩ = some (.int .i64 s.c) ∧ w'.cell? ⟨wr.heap.size, 1, none⟩ = some (.int .i64 s.r) ∧ (Instr.lookup 62 (.map (some M)) (.agg #[.int .i64 s.c, .int .i64 s.r]) false).run Try.prog w' = .ok (.slice ia (q.I s.c s.r).length ic) w')
        (exact ⟨m0, e0, e1, hlook⟩) (fail)
      go_wp2
      go_loopw [28] (fun i wr => ∃ (j : Nat) (bl : List Bool), j ≤ (q.I s.c s.r).length ∧ i = .int .i64 j ∧ wr.ownsRow N0 4 1 q.va rs.length (bl.map Value.bool) ∧ b.grownBy wr q.va.ownBlock ∧ Off rs p bl ∧ ∀ i ∈ (q.I s.c s.r).take j, NoM rs p i) (fun i _ => (q.I s.c s.r).length - (intOf i).toNat)
      case atStart => exact ⟨0, bl, Nat.zero_le _, rfl, horU.drew, hgrU.trans (grown_any ((Bel.refl U).drew) _), HOf.out, fun i hi => by simp at hi⟩
      case round =>
        clear horU hgrU m0 e0 e1 hlook HOf c0 c1 hbb HU
        obtain ⟨j, bl2, hj, rfl, ho2, hg2, hof2, hd2⟩ := hrel
        have HOf : Hid (Off rs p bl2) := hof2
        have HD2 : Hid (∀ i ∈ (q.I s.c s.r).take j, NoM rs p i) := hd2
        have hG2 := HG.out.marks hg2 ho2
        clear hof2 hd2
        by_cases hltj : j < (q.I s.c s.r).length
        · have hrow := hG2.rows s.c s.r
          have hmem := hG2.mem s.c s.r _ (List.getElem_mem hltj)
          rw [hV] at hrow
          obtain ⟨gi, cap', e⟩ := own_some hrow (by show 0 < (q.I s.c s.r).length; omega)
          injection e with e1 _ e3
          clear e3
          subst e1
          have ci := own_int hrow hltj
          obtain ⟨i, Hi⟩ : ∃ i, Hid (i = (q.I s.c s.r)[j]) := ⟨_, (rfl : (q.I s.c s.r)[j] = _)⟩
          rw [← Hi.out] at ci
          have hmem : i < rs.length := by rw [Hi.out]; exact hmem
          obtain ⟨ga, ca, hva⟩ := own_some hG2.asked (by omega)
          have y2 : wr.cell? ⟨G, 2, none⟩ = some q.va := hG2.box.cell 2 (by simp)
          have hG2l := hG2.box.lt
          have ho2' := ho2
          rw [hva] at y2 ho2'
          have Hva : Hid (q.va = .slice (some ⟨ga, 0, none⟩) rs.length ca) := hva
          clear hva
          obtain ⟨x, hx, cx⟩ := own_bool ho2' hmem
          have fx := ho2'.frozenAt i
          have hij : (j : Int) < ((q.I s.c s.r).length : Int) := by omega
          have hir : (i : Int) < (rs.length : Int) := by omega
          cases x
          · obtain ⟨hs1, hs2⟩ := ho2'.stored i (.bool true)
            obtain ⟨W3, HW3⟩ : ∃ W, Hid (W = wr.setCell ⟨ga, i, none⟩ (.bool true)) := ⟨_, (rfl : wr.setCell ⟨ga, i, none⟩ (.bool true) = _)⟩
            rw [← HW3.out] at hs1 hs2
            have hg3 : b.grownBy W3 q.va.ownBlock := hg2.trans (by rw [Hva.out]; exact hs2)
            have ho3 : W3.ownsRow N0 4 1 q.va rs.length ((bl2.set i true).map Value.bool) := by rw [Hva.out, List.map_set]; exact hs1
            have hG3 := HG.out.marks hg3 ho3
            obtain ⟨ra, rc, bs3, hvr, S3, _⟩ := Gr.out rmF.stays hG3.rooms
            obtain ⟨rb, ro, f3, rfl, hrb, hx3⟩ := S3.out hmem
            obtain ⟨_, _, r0, r1, r2, r3⟩ := hx3 i hmem
            have z0 : W3.cell? ⟨G, 0, none⟩ = some q.vr := hG3.box.cell 0 (by simp)
            have hz0 := hG3.box.lt
            have hvr' : q.vr = .slice (some ⟨rb, ro, none⟩) rs.length rc := hvr
            rw [hvr'] at z0
            have Xr := Xb.kept hg3 hwv
            have p0 : W3.cell? ⟨w.heap.size, 0, none⟩ = some (.int .i64 p.a) := Xr.cell 0 (by simp)
            have p1 : W3.cell? ⟨w.heap.size, 1, none⟩ = some (.int .i64 p.b) := Xr.cell 1 (by simp)
            have p2 : W3.cell? ⟨w.heap.size, 2, none⟩ = some (.int .i64 p.c) := Xr.cell 2 (by simp)
            have p3 : W3.cell? ⟨w.heap.size, 3, none⟩ = some (.int .i64 p.d) := Xr.cell 3 (by simp)
            obtain ⟨o, Ho⟩ : ∃ o, Hid (o = rs[i]) := ⟨_, (rfl : rs[i] = _)⟩
            rw [← Ho.out] at r0 r1 r2 r3
            have hwl := Xr.lt
            have HR : Hid (∀ v, Bel W3 v → v.cell? ⟨w.heap.size, 0, none⟩ = some (.int .i64 p.a) ∧ v.cell? ⟨w.heap.size, 1, none⟩ = some (.int .i64 p.b) ∧ v.cell? ⟨w.heap.size, 2, none⟩ = some (.int .i64 p.c) ∧ v.cell? ⟨w.heap.size, 3, none⟩ = some (.int .i64 p.d) ∧ v.cell? ⟨G, 0, none⟩ = some (.slice (some ⟨rb, ro, none⟩) rs.length rc) ∧ v.cell? ⟨rb, ro + i * 4, none⟩ = some (.int .i64 o.a) ∧ v.cell? ⟨rb, ro + i * 4 + 1, none⟩ = some (.int .i64 o.b) ∧ v.cell? ⟨rb, ro + i * 4 + 2, none⟩ = some (.int .i64 o.c) ∧ v.cell? ⟨rb, ro + i * 4 + 3, none⟩ = some (.int .i64 o.d)) := fun v h => ⟨bel_cellM h hwl p0, bel_cellM h hwl p1, bel_cellM h hwl p2, bel_cellM h hwl p3, bel_cellM h hz0 z0, bel_cellM h hrb r0, bel_cellM h hrb r1, bel_cellM h hrb r2, bel_cellM h hrb r3⟩
            have hW33 := Bel.refl W3
            clear hx3 S3 hG3 hG2 hs1 hs2 ho2 ho2' hg2 hrow Xr
            go_wp2
            rw [← HW3.out]
            go_region_held3 (fun w' => w'.cell? ⟨w.heap.size, 0, none⟩ = some (.int .i64 p.a) ∧ w'.cell? ⟨w.heap.size, 1, none⟩ = some (.int .i64 p.b) ∧ w'.cell? ⟨w.heap.size, 2, none⟩ = some (.int .i64 p.c) ∧ w'.cell? ⟨w.heap.size, 3, none⟩ = some (.int .i64 p.d) ∧ w'.cell? ⟨G, 0, none⟩ = some (.slice (some ⟨rb, ro, none⟩) rs.length rc) ∧ w'.cell? ⟨rb, ro + i * 4, none⟩ = some (.int .i64 o.a) ∧ w'.cell? ⟨rb, ro + i * 4 + 1, none⟩ = some (.int .i64 o.b) ∧ w'.cell? ⟨rb, ro + i * 4 + 2, none⟩ = some (.int .i64 o.c) ∧ w'.cell? ⟨rb, ro + i * 4 + 3, none⟩ = some (.int .i64 o.d))
              (exact HR.out _ (by with_reducible (repeat (first | assumption | refine Bel.drew ?_))))
              (first | (go_at_call 39; refine (bm_any p.a p.b p.c p.d o.a o.b o.c o.d (mtB p o) _ rfl).mono ?_; rintro e w4 ⟨rfl, hb4⟩; refine (fun hb34 : Bel W3 w4 => ?_) (bel_step (Bel.refl W3).drew hb4)))
            have hg4 : b.grownBy w4 q.va.ownBlock := hg3.trans (grown_any hb34 _)
            have ho4 : w4.ownsRow N0 4 1 q.va rs.length ((bl2.set i true).map Value.bool) := ho3.kept (bel_none hb34) (Classical.em _)
            rcases Bool.eq_false_or_eq_true (mtB p o) with hmt | hmt
            · have HF : Hid (frB rs p = false) := frB_false hmem (by rw [← Ho.out]; exact hmt)
              rw [hmt]
              go_wp2
              exact bodyPost_ret (v := .bool false) (by simp [results, Try.results60, go_sem]) rfl ⟨⟨_, by rw [HF.out], ho4, (grown_any hwb _).trans hg4⟩⟩
            · have HN : Hid (NoM rs p i) := fun h => by rw [← Ho.out]; exact hmt
              rw [hmt]
              go_wp2
              go_roundw
              case rel => exact ⟨j + 1, bl2.set i true, by omega, by go_num, ho4, hg4, HOf.out.set HN.out, fun t ht => by
                rw [List.take_succ_eq_append_getElem hltj, List.mem_append, List.mem_singleton] at ht
                rcases ht with ht | rfl
                · exact HD2.out t ht
                · rw [← Hi.out]; exact HN.out⟩
              case measure => simp [intOf]; omega
          · have HN : Hid (NoM rs p i) := HOf.out i hx
            clear hG2 hrow ho2'
            go_wp2
            go_roundw
            case rel => exact ⟨j + 1, bl2, by omega, by go_num, ho2, hg2, HOf.out, fun t ht => by
              rw [List.take_succ_eq_append_getElem hltj, List.mem_append, List.mem_singleton] at ht
              rcases ht with ht | rfl
              · exact HD2.out t ht
              · rw [← Hi.out]; exact HN.out⟩
            case measure => simp [intOf]; omega
        · have e : j = (q.I s.c s.r).length := by omega
          subst e
          clear hG2
          go_wp2
          go_roundw
          case rel => exact ⟨k + 1, bl2, by omega, by go_num, ho2, hg2, HOf.out, fun t ht => by
            rw [List.take_succ_eq_append_getElem hkl, List.mem_append, List.mem_singleton] at ht
            rcases ht with ht | rfl
            · exact HDone.out t ht
            · rw [← Hs.out]; intro i hi; exact HD2.out i (by rw [List.take_length]; exact hi)⟩
          case measure => simp [intOf]; omega
    · have e : k = ns := by omega
      subst e
      have HF : Hid (frB rs p = true) := frB_true fun i hi => by
        by_cases hm : mtB p rs[i] = true
        · have hr := (HG.out.rooms.el i hi).2.1
          obtain ⟨t, t1, t2⟩ := mt_share hp hr hm
          exact HDone.out t (by rw [List.take_of_length_le (by rw [HL.out]; exact Nat.le_refl _)]; exact hall t t1) i (HG.out.all i hi t t2) hi
        · simpa using hm
      go_wp2
      exact bodyPost_ret (v := .bool true) (by simp [results, Try.results60, go_sem]) rfl ⟨⟨bl, by rw [HF.out], hor, (grown_any hwb _).trans hgr⟩⟩
end Go.Proofs.Ytpbpnkklnbmkeaa

namespace Go.Proofs.Ytpbpnkklnbmkeaa
open Go.RowKit Go.Maps
open Go.ChangeMaps (setBlock heap_setBlock_same heap_setBlock_other)

/-- What lies below N0, and the blocks of which X holds, stay. -/
structure Frm (N0 : Nat) (X : Nat → Prop) (w w' : World) : Prop where
  os : w'.os = w.os
  tape : w'.tape = w.tape
  output : w'.output = w.output
  size : w.heap.size ≤ w'.heap.size
  block : ∀ k, k < w.heap.size → k < N0 ∨ X k → w'.heap[k]? = w.heap[k]?
theorem Frm.refl (N0 : Nat) (X : Nat → Prop) (w : World) : Frm N0 X w w := ⟨rfl, rfl, rfl, Nat.le_refl _, fun _ _ _ => rfl⟩
theorem Frm.trans {N0 : Nat} {X : Nat → Prop} {a b c : World} (h : Frm N0 X a b) (k : Frm N0 X b c) : Frm N0 X a c :=
  ⟨k.os.trans h.os, k.tape.trans h.tape, k.output.trans h.output, Nat.le_trans h.size k.size, fun i hi hx => (k.block i (Nat.lt_of_lt_of_le hi h.size) hx).trans (h.block i hi hx)⟩
theorem Frm.grow {N0 : Nat} {X : Nat → Prop} {a b : World} {row : Option Nat} (h : a.grownBy b row) (hr : ∀ x, row = some x → N0 ≤ x ∧ ¬ X x) : Frm N0 X a b :=
  ⟨h.os, h.tape, h.output, h.size, fun k hk hx => h.block k hk fun e => by have := hr k e.symm; rcases hx with hx | hx; · omega
                                                                           · exact this.2 hx⟩
theorem Frm.bel {N0 : Nat} {X : Nat → Prop} {a b : World} (h : Bel a b) : Frm N0 X a b := ⟨h.out.os, h.out.tape, h.out.output, h.out.size, fun k hk _ => h.out.block k hk⟩
theorem Frm.blk {N0 : Nat} {X : Nat → Prop} {a b : World} {B : Nat} {vs : List Value} (h : Frm N0 X a b) (k : Blk a B vs) (hx : X B) : Blk b B vs :=
  ⟨Nat.lt_of_lt_of_le k.lt h.size, fun j hj => by rw [World.cell?_of_block (h.block B k.lt (.inr hx))]; exact k.cell j hj, fun j => by rw [World.frozen?_of_block (h.block B k.lt (.inr hx))]; exact k.free j⟩
theorem Frm.sl {α : Type} {q : Nat} {E : Elem α} (hE : Stays q E) {N0 : Nat} {X : Nat → Prop} {w w' : World} {a : Option Addr} {l : List α} {bs : List Nat} (g : Frm N0 X w w') (h : Sl q E w a l bs) (hn : ∀ x ∈ bs, X x) : Sl q E w' a l bs :=
  h.alike hE fun b hb => by
    have hl := h.lt hE b hb
    have e := g.block b hl (.inr (hn b hb))
    exact ⟨Nat.lt_of_lt_of_le hl g.size, fun o => World.cell?_of_block e, fun o => World.frozen?_of_block e⟩

/-- The grid while the squares T have been told of the room that comes. -/
structure GridM (N0 G M : Nat) (X : Nat → Prop) (w : World) (rs : List RmD) (n : Nat) (T : List SqD) (q : GD) : Prop where
  box : Blk w G [q.vr, .map (some M), q.va]
  map : GMap w M n q.V
  rooms : Gr 4 (flatV RmP rmCs) 70 N0 w q.vr rs q.R (fun _ => [])
  asked : w.ownsRow N0 4 1 q.va rs.length (q.bl.map Value.bool)
  rows : ∀ c r, w.ownsRow N0 3 1 (q.V c r) (q.I c r).length (intsN (q.I c r))
  len : ∀ c r, (q.I c r).length ≤ n
  mem : ∀ c r, ∀ i ∈ q.I c r, i < rs.length + 1
  all : ∀ i (h : i < rs.length), ∀ s ∈ rmS rs[i], i ∈ q.I s.c s.r
  new : ∀ s ∈ T, rs.length ∈ q.I s.c s.r
  lo : N0 ≤ G ∧ N0 ≤ M ∧ G ≠ M ∧ N0 ≤ w.heap.size
  sh : ∀ x, X x → x ≠ G ∧ x ≠ M ∧ x < w.heap.size
  d1 : q.vr.ownBlock = none ∨ q.vr.ownBlock ≠ q.va.ownBlock
  d2 : ∀ c r, (q.V c r).ownBlock = none ∨ ((q.V c r).ownBlock ≠ q.vr.ownBlock ∧ (q.V c r).ownBlock ≠ q.va.ownBlock)
  d3 : ∀ c r c' r', ¬ (c = c' ∧ r = r') → (q.V c r).ownBlock = none ∨ (q.V c r).ownBlock ≠ (q.V c' r').ownBlock
  dr : ∀ x, q.vr.ownBlock = some x → x ≠ G ∧ ¬ X x
  da : ∀ x, q.va.ownBlock = some x → x ≠ G ∧ ¬ X x
  dv : ∀ c r x, (q.V c r).ownBlock = some x → x ≠ G ∧ ¬ X x
variable {N0 G M : Nat} {X : Nat → Prop} {w w' : World} {rs : List RmD} {n : Nat} {T : List SqD} {q : GD}
/-- From where on the blocks of the list are kept clear of. -/
theorem Grid.mid (h : Grid N0 G M X w rs n q) (hb : Bel w w') {cs : List Nat} (hc : ∀ x ∈ cs, w.heap.size ≤ x ∧ x < w'.heap.size) : GridM N0 G M (· ∈ cs) w' rs n [] q := by
  have h' := h.bel hb
  have hM := h.map.lt
  have hG := h.box.lt
  refine ⟨h'.box, h'.map, h'.rooms, h'.asked, h'.rows, h.len, fun c r i hi => Nat.lt_succ_of_lt (h.mem c r i hi), h.all, (fun _ hs => nomatch hs), h'.lo, fun x hx => ?_, h.d1, h.d2, h.d3, fun x hx => ⟨(h.dr x hx).1, fun e => ?_⟩, fun x hx => ⟨(h.da x hx).1, fun e => ?_⟩, fun c r x hx => ⟨(h.dv c r x hx).1, fun e => ?_⟩⟩
  · have := hc x hx
    omega
  · have := (h.rooms.own.lt x hx).2
    have := (hc x e).1
    omega
  · have := (h.asked.lt x hx).2
    have := (hc x e).1
    omega
  · have := ((h.rows c r).lt x hx).2
    have := (hc x e).1
    omega
theorem GridM.bel (h : GridM N0 G M X w rs n T q) (hb : Bel w w') : GridM N0 G M X w' rs n T q := by
  have hg := bel_none hb
  have ne : ∀ v : Value, v.ownBlock = none ∨ v.ownBlock ≠ none := fun v => Classical.em _
  exact ⟨h.box.bel hb, h.map.same (hb.out.block M h.map.lt), h.rooms.kept rmF hg (ne _), h.asked.kept hg (ne _), fun c r => (h.rows c r).kept hg (ne _), h.len, h.mem, h.all, h.new, ⟨h.lo.1, h.lo.2.1, h.lo.2.2.1, Nat.le_trans h.lo.2.2.2 hg.size⟩, fun x hx => ⟨(h.sh x hx).1, (h.sh x hx).2.1, Nat.lt_of_lt_of_le (h.sh x hx).2.2 hg.size⟩, h.d1, h.d2, h.d3, h.dr, h.da, h.dv⟩
theorem set_grown {w : World} {b : Nat} {o : Obj} {es : Array MapEntry} {clock : Nat} (hb : w.heap[b]? = some (.map es clock)) : w.grownBy (setBlock w b o) (some b) :=
  ⟨rfl, rfl, rfl, by simp [setBlock], fun i _ hi => heap_setBlock_other hb _ (fun e => hi (by rw [e]))⟩
/-- One square is told of the room: the entry, the row with one number more, the store. -/
theorem GridM.step (h : GridM N0 G M X w rs n T q) (hn : n < maxLen) (s : SqD) (hc : In64 s.c) (hr : In64 s.r) :
    ∃ (st : Nat) (W1 : World), (Instr.mapEntry 62 (.map (some M)) (sqV s.c s.r)).run Try.prog w = .ok (.tuple #[q.V s.c s.r, goInt st]) W1 ∧ w.grownBy W1 (some M) ∧ W1.heap.size = w.heap.size ∧ W1.ownsRow N0 3 1 (q.V s.c s.r) (q.I s.c s.r).length (intsN (q.I s.c s.r)) ∧
      ∀ (w6 : World) (v' : Value), w6.ownsRow N0 3 1 v' ((q.I s.c s.r).length + 1) (intsN (q.I s.c s.r) ++ [.int .i64 (rs.length : Nat)]) → W1.grownBy w6 (q.V s.c s.r).ownBlock → (v'.ownBlock = (q.V s.c s.r).ownBlock ∨ v'.ownBlock = some W1.heap.size) →
        ∃ W3, (Instr.entryStore 62 (.map (some M)) (goInt st) v').run Try.prog w6 = .ok () W3 ∧ w6.grownBy W3 (some M) ∧ Frm N0 X w W3 ∧ ∃ q', GridM N0 G M X W3 rs (n + 1) (T ++ [s]) q' ∧ q'.vr = q.vr ∧ q'.va = q.va := by
  obtain ⟨es0, clock0, hM0⟩ := h.map.map
  obtain ⟨st, es1, clock1, hrun, hst⟩ := h.map.entry hn hc hr
  have hM1 := heap_setBlock_same hM0 (.map es1 clock1)
  have hg1 : w.grownBy (setBlock w M (.map es1 clock1)) (some M) := set_grown hM0
  have hne : ∀ {v : Value} {e : TypeId} {k m : Nat} {xs : List Value}, w.ownsRow N0 e k v m xs → v.ownBlock = none ∨ v.ownBlock ≠ some M := fun ho => .inr fun e => own_ne_map ho h.map M e rfl
  refine ⟨st, _, hrun, hg1, by simp [setBlock], (h.rows s.c s.r).kept hg1 (hne (h.rows s.c s.r)), fun w6 v' ho6 hg6 hat => ?_⟩
  have hVM : some M ≠ (q.V s.c s.r).ownBlock := fun e => own_ne_map (h.rows s.c s.r) h.map M e.symm rfl
  have hsz : (setBlock w M (.map es1 clock1)).heap.size = w.heap.size := by simp [setBlock]
  have hM6 : w6.heap[M]? = some (.map es1 clock1) := by rw [hg6.block M (by rw [hsz]; exact h.map.lt) hVM]; exact hM1
  obtain ⟨es', clock', hr2, hGM⟩ := hst w6 v' hM6
  have hg3 : w6.grownBy (setBlock w6 M (.map es' clock')) (some M) := set_grown hM6
  have hv1 : ∀ x, v'.ownBlock = some x → (q.V s.c s.r).ownBlock = some x ∨ x = w.heap.size := fun x hx => by
    rcases hat with e | e
    · exact .inl (by rw [← e]; exact hx)
    · rw [hx, hsz] at e; injection e with e; exact .inr e
  have hVlo : ∀ x, (q.V s.c s.r).ownBlock = some x → N0 ≤ x ∧ ¬ X x := fun x hx => ⟨((h.rows s.c s.r).lt x hx).1, (h.dv _ _ x hx).2⟩
  have hMlo : ∀ x, some M = some x → N0 ≤ x ∧ ¬ X x := fun x hx => by injection hx with hx; subst hx; exact ⟨h.lo.2.1, fun e => (h.sh M e).2.1 rfl⟩
  -- what lies beside stays
  have keep : ∀ {v : Value} {e : TypeId} {k m : Nat} {xs : List Value}, w.ownsRow N0 e k v m xs → (v.ownBlock = none ∨ v.ownBlock ≠ (q.V s.c s.r).ownBlock) → (setBlock w6 M (.map es' clock')).ownsRow N0 e k v m xs := fun ho hd =>
    ((ho.kept hg1 (hne ho)).kept hg6 hd).kept hg3 (hne ho)
  have ho3 : (setBlock w6 M (.map es' clock')).ownsRow N0 3 1 v' ((q.I s.c s.r).length + 1) (intsN (q.I s.c s.r) ++ [.int .i64 (rs.length : Nat)]) := by
    refine ho6.kept hg3 (.inr fun e => ?_)
    rcases hv1 M e with e | e
    · exact hVM e.symm
    · have := h.map.lt; omega
  have hGV : some G ≠ (q.V s.c s.r).ownBlock := fun e => (h.dv _ _ G e.symm).1 rfl
  have hGM' : some G ≠ some M := fun e => by injection e with e; exact h.lo.2.2.1 e
  have hs6 : w.heap.size ≤ w6.heap.size := by rw [← hsz]; exact hg6.size
  have hs3 : (setBlock w6 M (.map es' clock')).heap.size = w6.heap.size := by simp [setBlock]
  have hlt : ∀ {v : Value} {e : TypeId} {k m : Nat} {xs : List Value}, w.ownsRow N0 e k v m xs → v.ownBlock ≠ some w.heap.size := fun ho e => by have := (ho.lt _ e).2; omega
  refine ⟨_, hr2, hg3, (Frm.grow hg1 hMlo).trans ((Frm.grow hg6 hVlo).trans (Frm.grow hg3 hMlo)), { q with V := fun c r => if c = s.c ∧ r = s.r then v' else q.V c r, I := fun c r => if c = s.c ∧ r = s.r then q.I s.c s.r ++ [rs.length] else q.I c r }, ?_, rfl, rfl⟩
  refine ⟨((h.box.kept hg1 hGM').kept hg6 hGV).kept hg3 hGM', hGM, ?_, ?_, ?_, ?_, ?_, ?_, ?_, ⟨h.lo.1, h.lo.2.1, h.lo.2.2.1, by rw [hs3]; exact Nat.le_trans h.lo.2.2.2 hs6⟩, ?_, h.d1, ?_, ?_, h.dr, h.da, ?_⟩
  · exact Gr.alike rmF.stays h.rooms (keep h.rooms.own (by rcases h.d2 s.c s.r with e | e; · rw [e]; exact Classical.em _
                                                           · exact .inr (fun k => e.1 k.symm))) (fun _ _ _ hx => nomatch hx)
  · exact keep h.asked (by rcases h.d2 s.c s.r with e | e; · rw [e]; exact Classical.em _
                           · exact .inr (fun k => e.2 k.symm))
  · intro c r
    show (setBlock w6 M (.map es' clock')).ownsRow N0 3 1 (if c = s.c ∧ r = s.r then v' else q.V c r) (if c = s.c ∧ r = s.r then q.I s.c s.r ++ [rs.length] else q.I c r).length (intsN (if c = s.c ∧ r = s.r then q.I s.c s.r ++ [rs.length] else q.I c r))
    by_cases e : c = s.c ∧ r = s.r
    · rw [if_pos e, if_pos e]
      have e2 : intsN (q.I s.c s.r ++ [rs.length]) = intsN (q.I s.c s.r) ++ [.int .i64 (rs.length : Nat)] := by simp [intsN]
      rw [e2, List.length_append]
      exact ho3
    · rw [if_neg e, if_neg e]
      exact keep (h.rows c r) (h.d3 c r s.c s.r e)
  · intro c r
    show (if c = s.c ∧ r = s.r then q.I s.c s.r ++ [rs.length] else q.I c r).length ≤ n + 1
    split
    · have := h.len s.c s.r; simp; omega
    · have := h.len c r; omega
  · intro c r i hi
    change i ∈ (if c = s.c ∧ r = s.r then q.I s.c s.r ++ [rs.length] else q.I c r) at hi
    split at hi
    · rcases List.mem_append.1 hi with hi | hi
      · exact h.mem _ _ i hi
      · rw [List.mem_singleton.1 hi]; exact Nat.lt_succ_self _
    · exact h.mem _ _ i hi
  · intro i hi t ht
    show i ∈ (if t.c = s.c ∧ t.r = s.r then q.I s.c s.r ++ [rs.length] else q.I t.c t.r)
    have := h.all i hi t ht
    split
    · rename_i e; rw [e.1, e.2] at this; exact List.mem_append_left _ this
    · exact this
  · intro t ht
    show rs.length ∈ (if t.c = s.c ∧ t.r = s.r then q.I s.c s.r ++ [rs.length] else q.I t.c t.r)
    split
    · simp
    · rename_i e
      rcases List.mem_append.1 ht with ht | ht
      · exact h.new t ht
      · rw [List.mem_singleton.1 ht] at e; exact absurd ⟨rfl, rfl⟩ e
  · intro x hx
    exact ⟨(h.sh x hx).1, (h.sh x hx).2.1, by rw [hs3]; exact Nat.lt_of_lt_of_le (h.sh x hx).2.2 hs6⟩
  · intro c r
    show (if c = s.c ∧ r = s.r then v' else q.V c r).ownBlock = none ∨ ((if c = s.c ∧ r = s.r then v' else q.V c r).ownBlock ≠ q.vr.ownBlock ∧ (if c = s.c ∧ r = s.r then v' else q.V c r).ownBlock ≠ q.va.ownBlock)
    by_cases e : c = s.c ∧ r = s.r
    · rw [if_pos e]
      rcases hat with hat | hat
      · rw [hat]; exact h.d2 _ _
      · rw [hat, hsz]; exact .inr ⟨(hlt h.rooms.own).symm, (hlt h.asked).symm⟩
    · rw [if_neg e]; exact h.d2 c r
  · intro c r c' r' hd
    show (if c = s.c ∧ r = s.r then v' else q.V c r).ownBlock = none ∨ (if c = s.c ∧ r = s.r then v' else q.V c r).ownBlock ≠ (if c' = s.c ∧ r' = s.r then v' else q.V c' r').ownBlock
    by_cases e : c = s.c ∧ r = s.r <;> by_cases e' : c' = s.c ∧ r' = s.r
    · exact absurd ⟨e.1.trans e'.1.symm, e.2.trans e'.2.symm⟩ hd
    · rw [if_pos e, if_neg e']
      rcases hat with hat | hat
      · rw [hat]
        have := h.d3 c r c' r' hd
        rw [e.1, e.2] at this
        exact this
      · rw [hat, hsz]; exact .inr (hlt (h.rows c' r')).symm
    · rw [if_neg e, if_pos e']
      rcases hat with hat | hat
      · rw [hat]
        exact h.d3 c r s.c s.r e
      · rw [hat, hsz]; exact .inr (hlt (h.rows c r))
    · rw [if_neg e, if_neg e']; exact h.d3 c r c' r' hd
  · intro c r x hx
    change (if c = s.c ∧ r = s.r then v' else q.V c r).ownBlock = some x at hx
    split at hx
    · rcases hv1 x hx with e | e
      · exact h.dv _ _ x e
      · subst e
        exact ⟨fun e => by have := h.box.lt; omega, fun e => by have := (h.sh _ e).2.2; omega⟩
    · exact h.dv _ _ x hx
end Go.Proofs.Ytpbpnkklnbmkeaa

namespace Go.Proofs.Ytpbpnkklnbmkeaa
open Go.RowKit Go.Maps

/-- The grid with m marks. -/
structure GridN (N0 G M : Nat) (X : Nat → Prop) (w : World) (rs : List RmD) (m n : Nat) (q : GD) : Prop where
  box : Blk w G [q.vr, .map (some M), q.va]
  map : GMap w M n q.V
  rooms : Gr 4 (flatV RmP rmCs) 70 N0 w q.vr rs q.R (fun _ => [])
  asked : w.ownsRow N0 4 1 q.va m (q.bl.map Value.bool)
  rows : ∀ c r, w.ownsRow N0 3 1 (q.V c r) (q.I c r).length (intsN (q.I c r))
  len : ∀ c r, (q.I c r).length ≤ n
  mem : ∀ c r, ∀ i ∈ q.I c r, i < rs.length
  all : ∀ i (h : i < rs.length), ∀ s ∈ rmS rs[i], i ∈ q.I s.c s.r
  lo : N0 ≤ G ∧ N0 ≤ M ∧ G ≠ M ∧ N0 ≤ w.heap.size
  sh : ∀ x, X x → x ≠ G ∧ x ≠ M ∧ x < w.heap.size
  d1 : q.vr.ownBlock = none ∨ q.vr.ownBlock ≠ q.va.ownBlock
  d2 : ∀ c r, (q.V c r).ownBlock = none ∨ ((q.V c r).ownBlock ≠ q.vr.ownBlock ∧ (q.V c r).ownBlock ≠ q.va.ownBlock)
  d3 : ∀ c r c' r', ¬ (c = c' ∧ r = r') → (q.V c r).ownBlock = none ∨ (q.V c r).ownBlock ≠ (q.V c' r').ownBlock
  dr : ∀ x, q.vr.ownBlock = some x → x ≠ G ∧ ¬ X x
  da : ∀ x, q.va.ownBlock = some x → x ≠ G ∧ ¬ X x
  dv : ∀ c r x, (q.V c r).ownBlock = some x → x ≠ G ∧ ¬ X x
variable {N0 G M : Nat} {X : Nat → Prop} {w wa wb : World} {rs : List RmD} {m n : Nat} {T : List SqD} {q : GD}
theorem GridM.room (h : GridM N0 G M X w rs n T q) {p : RmD} (hp : RmP p) (hT : ∀ s ∈ rmS p, s ∈ T) (hb : Bel w wa) {vr : Value} (ho : wb.ownsRow N0 70 4 vr (rs.length + 1) (recs q.R rs.length ++ rmCs p)) (hg : wa.grownBy wb q.vr.ownBlock) (hat : vr.ownBlock = q.vr.ownBlock ∨ vr.ownBlock = some wa.heap.size) :
    ∃ q', GridN N0 G M X (wb.setCell ⟨G, 0, none⟩ vr) (rs ++ [p]) rs.length n q' ∧ q'.vr = vr ∧ q'.va = q.va ∧ Frm N0 X w (wb.setCell ⟨G, 0, none⟩ vr) := by
  have ha := h.bel hb
  have hG0 := setCell_grown wb G 0 vr
  obtain ⟨R', G'⟩ := Gr.addF rmF (d := p) ha.rooms (Bel.refl wa) hp ha.lo.2.2.2 ho hg hat
  have hv1 : ∀ x, vr.ownBlock = some x → q.vr.ownBlock = some x ∨ x = wa.heap.size := fun x hx => by
    rcases hat with e | e
    · exact .inl (by rw [← e]; exact hx)
    · rw [hx] at e; injection e with e; exact .inr e
  have hGr : some G ≠ q.vr.ownBlock := fun e => (h.dr G e.symm).1 rfl
  have hMr : some M ≠ q.vr.ownBlock := fun e => own_ne_map h.rooms.own h.map M e.symm rfl
  have hMG : some M ≠ some G := fun e => by injection e with e; exact h.lo.2.2.1 e.symm
  have hsz : (wb.setCell ⟨G, 0, none⟩ vr).heap.size = wb.heap.size := by simp
  have hlt : ∀ {v : Value} {e : TypeId} {k m : Nat} {xs : List Value}, wa.ownsRow N0 e k v m xs → v.ownBlock ≠ some wa.heap.size := fun ho e => by have := (ho.lt _ e).2; omega
  have nG : ∀ v : Value, (∀ x, v.ownBlock = some x → x ≠ G ∧ ¬ X x) → v.ownBlock = none ∨ v.ownBlock ≠ some G := fun v hv => .inr fun e => (hv G e).1 rfl
  have hdr' : ∀ x, vr.ownBlock = some x → x ≠ G ∧ ¬ X x := fun x hx => by
    rcases hv1 x hx with e | e
    · exact h.dr x e
    · subst e
      exact ⟨fun e => by have := ha.box.lt; omega, fun e => by have := (ha.sh _ e).2.2; omega⟩
  refine ⟨{ q with vr := vr, R := R' }, ⟨?_, ?_, G'.kept rmF hG0 (nG vr hdr'), ?_, ?_, h.len, ?_, ?_, ⟨h.lo.1, h.lo.2.1, h.lo.2.2.1, by rw [hsz]; exact Nat.le_trans ha.lo.2.2.2 hg.size⟩, ?_, ?_, ?_, h.d3, hdr', h.da, h.dv⟩, rfl, rfl, ?_⟩
  · exact (ha.box.kept hg hGr).set 0 vr (by simp)
  · exact (ha.map.same (hg.block M ha.map.lt hMr)).same (hG0.block M (Nat.lt_of_lt_of_le ha.map.lt hg.size) hMG)
  · exact (ha.asked.kept hg (ne_swap h.d1)).kept hG0 (nG _ h.da)
  · exact fun c r => ((ha.rows c r).kept hg ((h.d2 c r).imp id (fun e => e.1))).kept hG0 (nG _ (h.dv c r))
  · intro c r i hi
    have := h.mem c r i hi
    simpa using this
  · intro i hi s hs
    by_cases e : i < rs.length
    · rw [List.getElem_append_left e] at hs
      exact h.all i e s hs
    · have e2 : i = rs.length := by simp at hi; omega
      subst e2
      simp at hs
      exact h.new s (hT s hs)
  · intro x hx
    exact ⟨(h.sh x hx).1, (h.sh x hx).2.1, by rw [hsz]; exact Nat.lt_of_lt_of_le (ha.sh x hx).2.2 hg.size⟩
  · show vr.ownBlock = none ∨ vr.ownBlock ≠ q.va.ownBlock
    rcases hat with e | e
    · rw [e]; exact h.d1
    · rw [e]; exact .inr (hlt ha.asked).symm
  · intro c r
    show (q.V c r).ownBlock = none ∨ ((q.V c r).ownBlock ≠ vr.ownBlock ∧ (q.V c r).ownBlock ≠ q.va.ownBlock)
    rcases h.d2 c r with e | e
    · exact .inl e
    · refine .inr ⟨?_, e.2⟩
      rcases hat with k | k
      · rw [k]; exact e.1
      · rw [k]; exact hlt (ha.rows c r)
  · exact (Frm.bel hb).trans ((Frm.grow hg fun x hx => ⟨(h.rooms.own.lt x hx).1, (h.dr x hx).2⟩).trans (Frm.grow hG0 fun x hx => by injection hx with hx; subst hx; exact ⟨h.lo.1, fun e => (h.sh _ e).1 rfl⟩))
theorem GridN.bel {w' : World} (h : GridN N0 G M X w rs m n q) (hb : Bel w w') : GridN N0 G M X w' rs m n q := by
  have hg := bel_none hb
  have ne : ∀ v : Value, v.ownBlock = none ∨ v.ownBlock ≠ none := fun v => Classical.em _
  exact ⟨h.box.bel hb, h.map.same (hb.out.block M h.map.lt), h.rooms.kept rmF hg (ne _), h.asked.kept hg (ne _), fun c r => (h.rows c r).kept hg (ne _), h.len, h.mem, h.all, ⟨h.lo.1, h.lo.2.1, h.lo.2.2.1, Nat.le_trans h.lo.2.2.2 hg.size⟩, fun x hx => ⟨(h.sh x hx).1, (h.sh x hx).2.1, Nat.lt_of_lt_of_le (h.sh x hx).2.2 hg.size⟩, h.d1, h.d2, h.d3, h.dr, h.da, h.dv⟩
theorem GridN.mark (h : GridN N0 G M X w rs m n q) (hm : m + 1 = rs.length) (hb : Bel w wa) {va : Value} (ho : wb.ownsRow N0 4 1 va (m + 1) (q.bl.map Value.bool ++ [.bool false])) (hg : wa.grownBy wb q.va.ownBlock) (hat : va.ownBlock = q.va.ownBlock ∨ va.ownBlock = some wa.heap.size) :
    ∃ q', Grid N0 G M (fun _ => False) (wb.setCell ⟨G, 2, none⟩ va) rs n q' ∧ Frm N0 X w (wb.setCell ⟨G, 2, none⟩ va) := by
  have ha := h.bel hb
  have hG0 := setCell_grown wb G 2 va
  have hv1 : ∀ x, va.ownBlock = some x → q.va.ownBlock = some x ∨ x = wa.heap.size := fun x hx => by
    rcases hat with e | e
    · exact .inl (by rw [← e]; exact hx)
    · rw [hx] at e; injection e with e; exact .inr e
  have hGr : some G ≠ q.va.ownBlock := fun e => (h.da G e.symm).1 rfl
  have hMr : some M ≠ q.va.ownBlock := fun e => own_ne_map h.asked h.map M e.symm rfl
  have hMG : some M ≠ some G := fun e => by injection e with e; exact h.lo.2.2.1 e.symm
  have hsz : (wb.setCell ⟨G, 2, none⟩ va).heap.size = wb.heap.size := by simp
  have hlt : ∀ {v : Value} {e : TypeId} {k m : Nat} {xs : List Value}, wa.ownsRow N0 e k v m xs → v.ownBlock ≠ some wa.heap.size := fun ho e => by have := (ho.lt _ e).2; omega
  have nG : ∀ v : Value, (∀ x, v.ownBlock = some x → x ≠ G ∧ ¬ X x) → v.ownBlock = none ∨ v.ownBlock ≠ some G := fun v hv => .inr fun e => (hv G e).1 rfl
  have hda' : ∀ x, va.ownBlock = some x → x ≠ G ∧ ¬ X x := fun x hx => by
    rcases hv1 x hx with e | e
    · exact h.da x e
    · subst e
      exact ⟨fun e => by have := ha.box.lt; omega, fun e => by have := (ha.sh _ e).2.2; omega⟩
  refine ⟨{ q with va := va, bl := q.bl ++ [false] }, ⟨?_, ?_, (ha.rooms.kept rmF hg h.d1).kept rmF hG0 (nG _ h.dr), ?_, ?_, h.len, h.mem, h.all, ⟨h.lo.1, h.lo.2.1, h.lo.2.2.1, by rw [hsz]; exact Nat.le_trans ha.lo.2.2.2 hg.size⟩, fun _ hx => hx.elim, ?_, ?_, h.d3, fun x hx => ⟨(h.dr x hx).1, fun e => e⟩, fun x hx => ⟨(hda' x hx).1, fun e => e⟩, fun c r x hx => ⟨(h.dv c r x hx).1, fun e => e⟩⟩, ?_⟩
  · exact (ha.box.kept hg hGr).set 2 va (by simp)
  · exact (ha.map.same (hg.block M ha.map.lt hMr)).same (hG0.block M (Nat.lt_of_lt_of_le ha.map.lt hg.size) hMG)
  · have e : (q.bl ++ [false]).map Value.bool = q.bl.map Value.bool ++ [.bool false] := by simp
    show (wb.setCell ⟨G, 2, none⟩ va).ownsRow N0 4 1 va rs.length ((q.bl ++ [false]).map Value.bool)
    rw [e, ← hm]
    exact ho.kept hG0 (nG _ hda')
  · exact fun c r => ((ha.rows c r).kept hg ((h.d2 c r).imp id (fun e => e.2))).kept hG0 (nG _ (h.dv c r))
  · show q.vr.ownBlock = none ∨ q.vr.ownBlock ≠ va.ownBlock
    rcases hat with e | e
    · rw [e]; exact h.d1
    · rw [e]; exact .inr (hlt ha.rooms.own)
  · intro c r
    show (q.V c r).ownBlock = none ∨ ((q.V c r).ownBlock ≠ q.vr.ownBlock ∧ (q.V c r).ownBlock ≠ va.ownBlock)
    rcases h.d2 c r with e | e
    · exact .inl e
    · refine .inr ⟨e.1, ?_⟩
      rcases hat with k | k
      · rw [k]; exact e.2
      · rw [k]; exact hlt (ha.rows c r)
  · exact (Frm.bel hb).trans ((Frm.grow hg fun x hx => ⟨(h.asked.lt x hx).1, (h.da x hx).2⟩).trans (Frm.grow hG0 fun x hx => by injection hx with hx; subst hx; exact ⟨h.lo.1, fun e => (h.sh _ e).1 rfl⟩))
end Go.Proofs.Ytpbpnkklnbmkeaa

namespace Go.Proofs.Ytpbpnkklnbmkeaa
open Go.RowKit Go.Maps

theorem GridM.marks {N0 G M : Nat} {X : Nat → Prop} {w w' : World} {rs : List RmD} {n : Nat} {T : List SqD} {q : GD} (h : GridM N0 G M X w rs n T q) (hg : w.grownBy w' q.va.ownBlock) {bl : List Bool} (ho : w'.ownsRow N0 4 1 q.va rs.length (bl.map Value.bool)) : GridM N0 G M X w' rs n T { q with bl := bl } :=
  ⟨h.box.kept hg (fun e => (h.da G e.symm).1 rfl), h.map.same (hg.block M h.map.lt (fun e => own_ne_map h.asked h.map M e.symm rfl)), h.rooms.kept rmF hg h.d1, ho,
    fun c r => (h.rows c r).kept hg ((h.d2 c r).imp id (fun h => h.2)), h.len, h.mem, h.all, h.new, ⟨h.lo.1, h.lo.2.1, h.lo.2.2.1, Nat.le_trans h.lo.2.2.2 hg.size⟩, fun x hx => ⟨(h.sh x hx).1, (h.sh x hx).2.1, Nat.lt_of_lt_of_le (h.sh x hx).2.2 hg.size⟩, h.d1, h.d2, h.d3, h.dr, h.da, h.dv⟩
theorem Frm.below {N0 : Nat} {X : Nat → Prop} {w w' : World} (h : Frm N0 X w w') (hl : N0 ≤ w.heap.size) : Below N0 w w' := ⟨h.os, h.tape, h.output, h.size, fun k hk => h.block k (by omega) (.inl hk)⟩
structure PutOut (N0 G M : Nat) (w : World) (rs : List RmD) (p : RmD) (n : Nat) (e : Ending) (w' : World) : Prop where
  out : ∃ (q : GD) (n' : Nat), e = .returned (.bool (frB rs p)) ∧ Grid N0 G M (fun _ => False) w' (if frB rs p = true then rs ++ [p] else rs) n' q ∧ n' ≤ n + (rmS p).length ∧ Below N0 w w'

theorem cells_of {v : World} {G B : Nat} {a b c x y : Value} (h : Blk v G [a, b, c]) (k : Blk v B [x, y]) : v.cell? ⟨G, 1, none⟩ = some b ∧ v.cell? ⟨G, 0, none⟩ = some a ∧ v.cell? ⟨B, 0, none⟩ = some x ∧ v.cell? ⟨B, 1, none⟩ = some y :=
  ⟨h.cell 1 (by simp), h.cell 0 (by simp), k.cell 0 (by simp), k.cell 1 (by simp)⟩
theorem news_one {w : World} {B : Nat} {x : Value} (h : Blk w B [x]) : ∀ j u, [x][j]? = some u → w.cell? ((⟨B, 0, none⟩ : Addr).add j) = some u := by
  intro j u hj
  match j, hj with
  | 0, hj => simp at hj; subst hj; exact h.cell 0 (by simp)

set_option maxRecDepth 100000 in
set_option maxHeartbeats 4000000 in
theorem put_any (N0 G M : Nat) (rs : List RmD) (n : Nat) (q : GD) (p : RmD) (w : World) (hG : Grid N0 G M (fun _ => False) w rs n q) (hp : RmP p) (hn : n + (rmS p).length ≤ 1048576) (hrs : rs.length ≤ 1000000) :
    Calls Try.prog 34 #[.pointer (some ⟨G, 0, none⟩), rmV p] w fun e w' => PutOut N0 G M w rs p n e w' := by
  obtain ⟨i0, hi0, hz0, hz1, hz2⟩ := info_parts infoIn
  obtain ⟨i1, hi1, hy0, hy1, hy2⟩ := info_parts infoRm
  obtain ⟨i2, hi2, hx0, hx1, hx2⟩ := info_parts infoBl
  obtain ⟨b, Hb⟩ : ∃ b, Hid (b = w.alloc (.cells #[.int .i64 p.a, .int .i64 p.b, .int .i64 p.c, .int .i64 p.d] 70)) := ⟨_, (rfl : w.alloc (.cells #[.int .i64 p.a, .int .i64 p.b, .int .i64 p.c, .int .i64 p.d] 70) = _)⟩
  have hwb : Bel w b := by rw [Hb.out]; exact bel_alloc (Bel.refl _) _
  have Xb : Blk b w.heap.size [.int .i64 p.a, .int .i64 p.b, .int .i64 p.c, .int .i64 p.d] := by rw [Hb.out]; exact Blk.new w [.int .i64 p.a, .int .i64 p.b, .int .i64 p.c, .int .i64 p.d] _
  have hpp := hp
  obtain ⟨pa, pb, pc, pd, pac, pbd⟩ := hpp
  go_enter Try.func34, Try.ntmps34
  go_wp2_with fail
  rw [← Hb.out]
  refine (squaresOf_any p.a p.b p.c p.d b pa pb pc pd pac pbd).mono ?_
  rintro e w1 ho
  obtain ⟨sa, sc, cs, rfl, hT, hcs, hb1⟩ := ho.out
  have hw1 := bel_step hwb hb1
  have X1 := Xb.bel hb1
  have p0 : w1.cell? ⟨w.heap.size, 0, none⟩ = some (.int .i64 p.a) := X1.cell 0 (by simp)
  have p1 : w1.cell? ⟨w.heap.size, 1, none⟩ = some (.int .i64 p.b) := X1.cell 1 (by simp)
  have p2 : w1.cell? ⟨w.heap.size, 2, none⟩ = some (.int .i64 p.c) := X1.cell 2 (by simp)
  have p3 : w1.cell? ⟨w.heap.size, 3, none⟩ = some (.int .i64 p.d) := X1.cell 3 (by simp)
  have hl1 := X1.lt
  have hbs : w.heap.size < b.heap.size := Xb.lt
  have HcX : Hid (∀ x ∈ w.heap.size :: cs, w.heap.size ≤ x ∧ x < w1.heap.size) := fun x hx => by
    rcases List.mem_cons.1 hx with rfl | hx
    · exact ⟨Nat.le_refl _, hl1⟩
    · have := hcs x hx; have := hT.lt sqE x hx; omega
  have hM1 := hG.mid hw1 HcX.out
  have hG1 := hG.bel hw1
  have hva : ∀ x ∈ cs, q.va.ownBlock ≠ some x := fun x hx e => by have := (hG.asked.lt x e).2; have := hcs x hx; omega
  obtain ⟨L, HLe⟩ : ∃ L, Hid (L = rmS p) := ⟨_, (rfl : rmS p = _)⟩
  have HLs : Hid (sqs p.a p.b p.c p.d = L) := by rw [HLe.out]; exact rfl
  rw [HLs.out] at hT ⊢
  rw [← HLe.out] at hn
  have hN0 := hG.lo.2.2.2
  clear ho hG Xb hcs
  go_wp2_with fail
  refine (free_any N0 G M _ rs n q p sa _ sc L cs _ hG1 hp hT rfl (by omega) hva (by rw [HLe.out]; exact fun _ h => h) (by omega) (by omega)).mono ?_
  rintro e w2 ho
  obtain ⟨bl, rfl, ho2, hg2⟩ := ho.out
  have HM2 : Hid (GridM N0 G M (· ∈ w.heap.size :: cs) w2 rs n [] { q with bl := bl }) := hM1.marks hg2 ho2
  have HF2 : Hid (Frm N0 (· ∈ w.heap.size :: cs) w w2) := (Frm.bel hw1).trans (Frm.grow hg2 fun x hx => ⟨(hG1.asked.lt x hx).1, (hM1.da x hx).2⟩)
  have HG2 : Hid (Grid N0 G M (fun _ => False) w2 rs n { q with bl := bl }) := hG1.marks hg2 ho2
  have X2 := (Frm.grow (X := (· ∈ w.heap.size :: cs)) (N0 := N0) hg2 fun x hx => ⟨(hG1.asked.lt x hx).1, (hM1.da x hx).2⟩).blk X1 List.mem_cons_self
  have hT2 := hT.keptO sqE hg2 hva
  have hns : L.length ≤ 1048576 := by omega
  clear hM1 hG1 ho ho2 hg2 X1 p0 p1 p2 p3 hT
  rcases Bool.eq_false_or_eq_true (frB rs p) with hf | hf
  · rw [hf]
    have hnn := hn
    go_wp2
    go_loopw [17] (fun i wr => ∃ (k : Nat) (q' : GD), k ≤ L.length ∧ i = .int .i64 k ∧ GridM N0 G M (· ∈ w.heap.size :: cs) wr rs (n + k) (L.take k) q' ∧ q'.vr = q.vr ∧ q'.va = q.va ∧ Frm N0 (· ∈ w.heap.size :: cs) w2 wr) (fun i _ => L.length - (intOf i).toNat)
    case atStart => exact ⟨0, _, Nat.zero_le _, rfl, HM2.out, rfl, rfl, Frm.refl _ _ _⟩
    case round =>
      obtain ⟨k, q', hk, rfl, hM, hvr, hva', hF⟩ := hrel
      by_cases hlt : k < L.length
      · obtain ⟨bb, off, f, rfl, hbb, hx⟩ := (hF.sl sqE hT2 (fun x hx => List.mem_cons_of_mem _ hx)).out hlt
        obtain ⟨_, j0, j1, c0, c1⟩ := hx k hlt
        obtain ⟨s, Hs⟩ : ∃ s, Hid (s = L[k]) := ⟨_, (rfl : L[k] = _)⟩
        rw [← Hs.out] at c0 c1 j0 j1
        obtain ⟨U, HU⟩ : ∃ U, Hid (U = wr.alloc (.cells #[.int .i64 s.c, .int .i64 s.r] 101)) := ⟨_, (rfl : wr.alloc (.cells #[.int .i64 s.c, .int .i64 s.r] 101) = _)⟩
        have hbU : Bel wr U := by rw [HU.out]; exact bel_alloc (Bel.refl _) _
        have XU : Blk U wr.heap.size [.int .i64 s.c, .int .i64 s.r] := by rw [HU.out]; exact Blk.new wr [.int .i64 s.c, .int .i64 s.r] _
        obtain ⟨W, HW⟩ : ∃ W, Hid (W = (U.alloc (.cells #[.int .i64 (rs.length : Nat)] 3)).drew) := ⟨_, (rfl : (U.alloc (.cells #[.int .i64 (rs.length : Nat)] 3)).drew = _)⟩
        have hbW : Bel U W := by rw [HW.out]; exact (bel_alloc (Bel.refl U) _).drew
        have hMU := hM.bel hbU
        have hMW := hMU.bel hbW
        obtain ⟨st, W1, hrun, hgW1, hsW1, hoW1, hnext⟩ := hMW.step (by unfold maxLen; omega) s j0 j1
        obtain ⟨ia, ic, hV⟩ := own_shape hoW1
        obtain ⟨ra, rc, hvrs⟩ := own_shape hMU.rooms.own
        have hIl := hM.len s.c s.r
        have hVw : ∀ x, (q'.V s.c s.r).ownBlock = some x → x < wr.heap.size := fun x hx => ((hM.rows s.c s.r).lt x hx).2
        have hVG : some G ≠ (q'.V s.c s.r).ownBlock := fun e => (hM.dv s.c s.r G e.symm).1 rfl
        have hVs : some wr.heap.size ≠ (q'.V s.c s.r).ownBlock := fun e => by have := hVw _ e.symm; omega
        have hMw := hM.map.lt
        have hGM : some G ≠ some M := fun e => by injection e with e; exact hM.lo.2.2.1 e
        have hsM : some wr.heap.size ≠ some M := fun e => by injection e with e; omega
        have hUs : wr.heap.size < U.heap.size := XU.lt
        have hUM : some U.heap.size ≠ some M := fun e => by injection e with e; omega
        have XW : Blk W U.heap.size [.int .i64 (rs.length : Nat)] := by rw [HW.out]; exact (Blk.new U [.int .i64 (rs.length : Nat)] _).bel ((Bel.refl _).drew)
        have HN : Hid (∀ j u, [Value.int .i64 (rs.length : Nat)][j]? = some u → W1.cell? ((⟨U.heap.size, 0, none⟩ : Addr).add j) = some u) := news_one (XW.kept hgW1 hUM)
        have hB1 := hMW.box.kept hgW1 hGM
        have hQ1 := (XU.bel hbW).kept hgW1 hsM
        have HS0 := cells_of hMU.box XU
        have HSW := cells_of hMW.box (XU.bel hbW)
        have HS1 := cells_of hB1 hQ1
        have hlo1 : N0 ≤ W1.heap.size := by rw [hsW1]; exact hMW.lo.2.2.2
        have hgl : G < U.heap.size := hMU.box.lt
        rw [hvrs] at HS0 HSW HS1 hB1
        rw [hV] at hrun hnext hVG hVs hoW1
        rw [HW.out] at hrun HSW
        have HNext : Hid (∀ (w6 : World) (v' : Value), w6.ownsRow N0 3 1 v' ((q'.I s.c s.r).length + 1) (intsN (q'.I s.c s.r) ++ [.int .i64 (rs.length : Nat)]) → W1.grownBy w6 (Value.slice ia (q'.I s.c s.r).length ic).ownBlock → (v'.ownBlock = (Value.slice ia (q'.I s.c s.r).length ic).ownBlock ∨ v'.ownBlock = some W1.heap.size) →
          ∃ W3, (Instr.entryStore 62 (.map (some M)) (.int .i64 ((st : Nat) : Int)) v').run Try.prog w6 = .ok () W3 ∧ w6.grownBy W3 (some M) ∧ Frm N0 (· ∈ w.heap.size :: cs) W W3 ∧ ∃ q'', GridM N0 G M (· ∈ w.heap.size :: cs) W3 rs (n + k + 1) (L.take k ++ [s]) q'' ∧ q''.vr = q'.vr ∧ q''.va = q'.va) := hnext
        have HB1 : Hid (Blk W1 G [.slice ra rs.length rc, .map (some M), q'.va]) := hB1
        have HQ1 : Hid (Blk W1 wr.heap.size [.int .i64 s.c, .int .i64 s.r]) := hQ1
        have HFW : Hid (Frm N0 (· ∈ w.heap.size :: cs) w2 W) := hF.trans (Frm.bel (bel_step hbU hbW))
        have hir : (rs.length : Int) ≤ 1048576 := by omega
        unfold sqV at hrun
        clear hnext hM hMU hMW hx XW hB1 hQ1 hgW1 hbU hbW hV hVw XU hF
        go_wp2
        rw [← HU.out]
        go_region_held3 (fun w' => w'.cell? ⟨G, 1, none⟩ = some (.map (some M)) ∧ w'.cell? ⟨G, 0, none⟩ = some (.slice ra rs.length rc) ∧ w'.cell? ⟨wr.heap.size, 0, none⟩ = some (.int .i64 s.c) ∧ w'.cell? ⟨wr.heap.size, 1, none⟩ = some (.int .i64 s.r))
          (first | exact HS0 | exact HSW | exact HS1 | exact HS6 | exact HS3)
          (first | (refine step_append_lies _ rfl _ _ _ rfl N0 3 i0 (.int .i64 0) 1 8 Try.underlying102 hi0 hz0 hz1 hz2 rfl (by decide) (.slice ia (q'.I s.c s.r).length ic) (q'.I s.c s.r).length (intsN (q'.I s.c s.r)) (by rfl) hoW1 ⟨U.heap.size, 0, none⟩ 1 1 [.int .i64 (rs.length : Nat)] (by rfl) (by rfl) HN.out (by simp [Value.oneCell']) (by omega) (by unfold maxLen; omega) (by omega) hlo1 (W1.heap.size) (by rfl) ?_; intro g cap w6 hown6 hgrow hat _; obtain ⟨W3, hES, hg3, hF3, q2, hM3, hv3, hva3⟩ := HNext.out w6 _ hown6 hgrow (hatF hat); have HS6 := cells_of (HB1.out.kept hgrow hVG) (HQ1.out.kept hgrow hVs); have HS3 := cells_of ((HB1.out.kept hgrow hVG).kept hg3 hGM) ((HQ1.out.kept hgrow hVs).kept hg3 hsM)))
        have HM3 : Hid (GridM N0 G M (· ∈ w.heap.size :: cs) W3 rs (n + (k + 1)) (L.take (k + 1)) q2) := by
          rw [List.take_succ_eq_append_getElem hlt, ← Hs.out]; exact hM3
        have HF3 : Hid (Frm N0 (· ∈ w.heap.size :: cs) w2 W3) := HFW.out.trans hF3
        clear hM3 hF3 hES hg3 hown6 hgrow hat HS6 HS3
        go_wp2
        go_roundw
        case rel => exact ⟨k + 1, q2, by omega, by go_num, HM3.out, hv3.trans hvr, hva3.trans hva', HF3.out⟩
        case measure => simp [intOf]; omega
      · have e : k = L.length := by omega
        subst e
        have HM : Hid (GridM N0 G M (· ∈ w.heap.size :: cs) wr rs (n + L.length) L q') := by rw [List.take_length] at hM; exact hM
        have Xr := hF.blk X2 List.mem_cons_self
        have p0 : wr.cell? ⟨w.heap.size, 0, none⟩ = some (.int .i64 p.a) := Xr.cell 0 (by simp)
        have p1 : wr.cell? ⟨w.heap.size, 1, none⟩ = some (.int .i64 p.b) := Xr.cell 1 (by simp)
        have p2 : wr.cell? ⟨w.heap.size, 2, none⟩ = some (.int .i64 p.c) := Xr.cell 2 (by simp)
        have p3 : wr.cell? ⟨w.heap.size, 3, none⟩ = some (.int .i64 p.d) := Xr.cell 3 (by simp)
        have hwl := Xr.lt
        have hgl : G < wr.heap.size := hM.box.lt
        obtain ⟨ra, rc, hvrs⟩ := own_shape hM.rooms.own
        have hGr : some G ≠ q'.vr.ownBlock := fun e => (hM.dr G e.symm).1 rfl
        have g0 : wr.cell? ⟨G, 0, none⟩ = some q'.vr := hM.box.cell 0 (by simp)
        have hown : (wr.alloc (.cells #[.int .i64 p.a, .int .i64 p.b, .int .i64 p.c, .int .i64 p.d] 70)).drew.ownsRow N0 70 4 q'.vr rs.length (recs q'.R rs.length) := (hM.rooms.own.alloc _).drew
        have hbR : Bel wr (wr.alloc (.cells #[.int .i64 p.a, .int .i64 p.b, .int .i64 p.c, .int .i64 p.d] 70)).drew := (bel_alloc (Bel.refl wr) _).drew
        have HBx : Hid (Blk (wr.alloc (.cells #[.int .i64 p.a, .int .i64 p.b, .int .i64 p.c, .int .i64 p.d] 70)).drew G [q'.vr, .map (some M), q'.va]) := hM.box.bel hbR
        have hlo : N0 ≤ wr.heap.size := hM.lo.2.2.2
        rw [hvrs] at g0 hown hGr
        have Hvrs : Hid (q'.vr = .slice ra rs.length rc) := hvrs
        clear hM Xr hvrs
        go_wp2
        go_region_law (first
          | (refine step_append_lies _ rfl _ _ _ rfl N0 70 i1 (.agg #[.int .i64 0, .int .i64 0, .int .i64 0, .int .i64 0]) 4 32 Try.underlying63 hi1 hy0 hy1 hy2 rfl (by decide) (.slice ra rs.length rc) rs.length (recs q'.R rs.length) (by rfl) hown ⟨wr.heap.size, 0, none⟩ 1 1 [.int .i64 p.a, .int .i64 p.b, .int .i64 p.c, .int .i64 p.d] (by rfl) (by rfl) (World.news_of_block (cs := #[.int .i64 p.a, .int .i64 p.b, .int .i64 p.c, .int .i64 p.d]) (t := 70) (fr := (0, 0)) (heap_alloc_new wr _)) (by simp [Value.oneCell']) (by omega) (by unfold maxLen; omega) (by omega) (by simp; omega) (wr.heap.size + 1) (by simp) ?_; intro g cap wB hownB hgrow hat _; have hBB := HBx.out.kept hgrow hGr; have y6 : wB.cell? ⟨G, 0, none⟩ = some q'.vr := hBB.cell 0 (by simp); have z6 := hBB.free 0))
        all_goals
          obtain ⟨q3, hN3, hv3, hva3, hF3⟩ := HM.out.room hp (by rw [HLe.out]; exact fun _ h => h) hbR (vr := .slice (some ⟨g, 0, none⟩) (rs.length + 1) cap) hownB (by rw [Hvrs.out]; exact hgrow) (by rw [Hvrs.out]; exact hatF (by simpa using hat))
          obtain ⟨wC, HC⟩ : ∃ W, Hid (W = wB.setCell ⟨G, 0, none⟩ (.slice (some ⟨g, 0, none⟩) (rs.length + 1) cap)) := ⟨_, (rfl : wB.setCell ⟨G, 0, none⟩ (.slice (some ⟨g, 0, none⟩) (rs.length + 1) cap) = _)⟩
          rw [← HC.out] at hN3 hF3
          obtain ⟨xa, xc, hvas⟩ := own_shape hN3.asked
          have g2 : wC.cell? ⟨G, 2, none⟩ = some q3.va := hN3.box.cell 2 (by simp)
          have hGa : some G ≠ q3.va.ownBlock := fun e => (hN3.da G e.symm).1 rfl
          have hgC : G < wC.heap.size := hN3.box.lt
          have hownC : (wC.alloc (.cells #[.bool false] 4)).ownsRow N0 4 1 q3.va rs.length (q3.bl.map Value.bool) := hN3.asked.alloc _
          have hbC : Bel wC (wC.alloc (.cells #[.bool false] 4)) := bel_alloc (Bel.refl _) _
          have HBc : Hid (Blk (wC.alloc (.cells #[.bool false] 4)) G [q3.vr, .map (some M), q3.va]) := hN3.box.bel hbC
          have hloC : N0 ≤ wC.heap.size := hN3.lo.2.2.2
          rw [hvas] at g2 hGa hownC
          have Hvas : Hid (q3.va = .slice xa rs.length xc) := hvas
          have HN3 : Hid (GridN N0 G M (· ∈ w.heap.size :: cs) wC (rs ++ [p]) rs.length (n + L.length) q3) := hN3
          have HF3 : Hid (Frm N0 (· ∈ w.heap.size :: cs) w wC) := HF2.out.trans (hF.trans hF3)
          clear hN3 hvas hF3 hownB hgrow hat hown hBB y6 z6
          rw [← HC.out]
          go_wp2_with (first
            | (at_builtin; refine wpList_append_lies _ rfl _ _ 64 rfl N0 4 i2 (.bool false) 1 1 Try.underlying64 hi2 hx0 hx1 hx2 rfl (by decide) _ _ _ rfl hownC ⟨wC.heap.size, 0, none⟩ 1 1 [.bool false] rfl rfl (cell_one_new _ _ _) (by simp [Value.oneCell']) (by decide) (by unfold maxLen; omega) (by omega) (by simp; omega) (wC.heap.size + 1) (by simp) ?_)
            | go_in)
          intro ge cape wE hownE hgrowE hatE _
          have hBE := HBc.out.kept hgrowE hGa
          have y7 : wE.cell? ⟨G, 2, none⟩ = some q3.va := hBE.cell 2 (by simp)
          have z7 := hBE.free 2
          obtain ⟨q4, hG4, hF4⟩ := HN3.out.mark (by simp) hbC (va := .slice (some ⟨ge, 0, none⟩) (rs.length + 1) cape) hownE (by rw [Hvas.out]; exact hgrowE) (by rw [Hvas.out]; exact hatF (by simpa using hatE))
          have HP : Hid (PutOut N0 G M w rs p n (.returned (.bool true)) (wE.setCell ⟨G, 2, none⟩ (.slice (some ⟨ge, 0, none⟩) (rs.length + 1) cape))) :=
            ⟨⟨q4, n + L.length, by rw [hf], by rw [if_pos hf]; exact hG4, by rw [HLe.out]; exact Nat.le_refl _, (HF3.out.trans hF4).below hN0⟩⟩
          clear hG4 hF4 hownE hgrowE hatE
          go_wp2
          exact bodyPost_ret (v := .bool true) (by simp [results, Try.results34, go_sem]) rfl HP.out
  · rw [hf]
    have HP : Hid (PutOut N0 G M w rs p n (.returned (.bool false)) w2) :=
      ⟨⟨_, n, by rw [hf], by rw [if_neg (by rw [hf]; decide)]; exact HG2.out, by omega, HF2.out.below hN0⟩⟩
    go_wp2
    exact bodyPost_ret (v := .bool false) (by simp [results, Try.results34, go_sem]) rfl HP.out
end Go.Proofs.Ytpbpnkklnbmkeaa
