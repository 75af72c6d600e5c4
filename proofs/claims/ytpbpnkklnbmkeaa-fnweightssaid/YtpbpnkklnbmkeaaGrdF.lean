/-
  Whether a room is free.
-/
import Derived.Test.YtpbpnkklnbmkeaaGrdG
import Derived.Test.YtpbpnkklnbmkeaaLblC
namespace Go.Proofs.Ytpbpnkklnbmkeaa
open Go.RowKit Go.Maps

theorem Sl.keptO {α : Type} {q : Nat} {E : Elem α} (hE : Stays q E) {w w' : World} {row : Option Nat} {a : Option Addr} {l : List α} {bs : List Nat} (h : Sl q E w a l bs) (hg : w.grownBy w' row) (hn : ∀ x ∈ bs, row ≠ some x) : Sl q E w' a l bs :=
  h.alike hE fun b hb => by
    have hl := h.lt hE b hb
    have e := hg.block b hl (fun e => hn b hb e.symm)
    exact ⟨Nat.lt_of_lt_of_le hl hg.size, fun o => World.cell?_of_block e, fun o => World.frozen?_of_block e⟩
/-- The room whose number this is does not meet the room. -/
def NoM (rs : List RmD) (p : RmD) (i : Nat) : Prop := ∀ h : i < rs.length, mtB p rs[i] = false
def Off (rs : List RmD) (p : RmD) (bl : List Bool) : Prop := ∀ i, bl[i]? = some true → NoM rs p i
theorem frB_true {rs : List RmD} {p : RmD} (h : ∀ i, NoM rs p i) : frB rs p = true := by
  unfold frB
  rw [List.all_eq_true]
  intro o ho
  obtain ⟨i, hi, rfl⟩ := List.mem_iff_getElem.1 ho
  rw [h i hi]; rfl
theorem frB_false {rs : List RmD} {p : RmD} {i : Nat} (hi : i < rs.length) (h : mtB p rs[i] = true) : frB rs p = false := by
  unfold frB
  rw [List.all_eq_false]
  exact ⟨rs[i], List.getElem_mem hi, by rw [h]; decide⟩
structure FrOut (N0 : Nat) (w : World) (rs : List RmD) (p : RmD) (va : Value) (e : Ending) (w' : World) : Prop where
  out : ∃ bl : List Bool, e = .returned (.bool (frB rs p)) ∧ w'.ownsRow N0 4 1 va rs.length (bl.map Value.bool) ∧ w.grownBy w' va.ownBlock

theorem own_bool {w : World} {base g n cap : Nat} {bl : List Bool} (h : w.ownsRow base 4 1 (.slice (some ⟨g, 0, none⟩) n cap) n (bl.map Value.bool)) {i : Nat} (hi : i < n) : ∃ x, bl[i]? = some x ∧ w.cell? ⟨g, i, none⟩ = some (.bool x) := by
  have hl : bl.length = n := by have := own_len h; simpa using this
  refine ⟨bl[i], List.getElem?_eq_getElem (by omega), ?_⟩
  rw [h.cellAt i (by omega), List.getElem?_map, List.getElem?_eq_getElem (by omega)]; rfl
theorem Off.set {rs : List RmD} {p : RmD} {bl : List Bool} {i : Nat} (h : Off rs p bl) (hi : NoM rs p i) : Off rs p (bl.set i true) := fun j hj => by
  rw [List.getElem?_set] at hj
  split at hj
  · rename_i e; subst e; exact hi
  · exact h j hj
set_option maxRecDepth 100000 in
set_option maxHeartbeats 4000000 in
theorem free_any (N0 G M : Nat) (X : Nat → Prop) (rs : List RmD) (n : Nat) (q : GD) (p : RmD) (sa : Option Addr) (ns sc : Nat) (L : List SqD) (cs : List Nat) (w : World) (hG : Grid N0 G M X w rs n q) (hp : RmP p) (hT : SqsL w sa L cs) (hL : L.length = ns) (hm : ns ≤ 1048576)
    (hcs : ∀ x ∈ cs, q.va.ownBlock ≠ some x) (hall : ∀ s ∈ rmS p, s ∈ L) (hn : n ≤ 1048576) (hrs : rs.length ≤ 1048576) :
    Calls Try.prog 60 #[.pointer (some ⟨G, 0, none⟩), rmV p, .slice sa ns sc] w fun e w' => FrOut N0 w rs p q.va e w' := by
  obtain ⟨b, Hb⟩ : ∃ b, Hid (b = w.alloc (.cells #[.int .i64 p.a, .int .i64 p.b, .int .i64 p.c, .int .i64 p.d] 70)) := ⟨_, (rfl : w.alloc (.cells #[.int .i64 p.a, .int .i64 p.b, .int .i64 p.c, .int .i64 p.d] 70) = _)⟩
  have hwb : Bel w b := by rw [Hb.out]; exact bel_alloc (Bel.refl _) _
  have Xb : Blk b w.heap.size [.int .i64 p.a, .int .i64 p.b, .int .i64 p.c, .int .i64 p.d] := by rw [Hb.out]; exact Blk.new w [.int .i64 p.a, .int .i64 p.b, .int .i64 p.c, .int .i64 p.d] _
  have hGb := hG.bel hwb
  obtain ⟨w1, hcl, ho1, hg1⟩ := clear_any hGb.asked
  have HL : Hid (L.length = ns) := hL
  have hvw : ∀ x, q.va.ownBlock = some x → x < w.heap.size := fun x hx => (hG.asked.lt x hx).2
  have hwv : some w.heap.size ≠ q.va.ownBlock := fun e => by have := hvw _ e.symm; omega
  have HG : Hid (Grid N0 G M X b rs n q) := hGb
  have hTb := hT.bel sqE hwb
  have HO : Hid (Off rs p (List.replicate rs.length false)) := fun i hi => by
    obtain ⟨_, e⟩ := List.getElem?_eq_some_iff.1 hi
    simp at e
  have x2 : w.cell? ⟨G, 2, none⟩ = some q.va := hG.box.cell 2 (by simp)
  have hGl := hG.box.lt
  rw [Hb.out] at hcl
  clear hL hG hGb hT
  go_enter Try.func60, Try.ntmps60
  go_wp2
  go_loopw [17] (fun i wr => ∃ (k : Nat) (bl : List Bool), k ≤ ns ∧ i = .int .i64 k ∧ wr.ownsRow N0 4 1 q.va rs.length (bl.map Value.bool) ∧ b.grownBy wr q.va.ownBlock ∧ Off rs p bl ∧ ∀ s ∈ L.take k, ∀ i ∈ q.I s.c s.r, NoM rs p i) (fun i _ => ns - (intOf i).toNat)
  case atStart => exact ⟨0, _, Nat.zero_le _, rfl, ho1, hg1, HO.out, fun s hs => by simp at hs⟩
  case round =>
    clear ho1 hg1 HO hcl x2
    obtain ⟨k, bl, hk, rfl, hor, hgr, hof, hdone⟩ := hrel
    have HDone : Hid (∀ s ∈ L.take k, ∀ i ∈ q.I s.c s.r, NoM rs p i) := hdone
    have HOf : Hid (Off rs p bl) := hof
    clear hdone hof
    by_cases hlt : k < ns
    · have hkl : k < L.length := by rw [HL.out]; exact hlt
      obtain ⟨bb, off, f, rfl, hbb, hx⟩ := (hTb.keptO sqE hgr hcs).out hkl
      obtain ⟨_, j0, j1, c0, c1⟩ := hx k hkl
      obtain ⟨s, Hs⟩ : ∃ s, Hid (s = L[k]) := ⟨_, (rfl : L[k] = _)⟩
      rw [← Hs.out] at c0 c1 j0 j1
      obtain ⟨U, HU⟩ : ∃ U, Hid (U = wr.alloc (.cells #[.int .i64 s.c, .int .i64 s.r] 101)) := ⟨_, (rfl : wr.alloc (.cells #[.int .i64 s.c, .int .i64 s.r] 101) = _)⟩
      have hgrU : b.grownBy U q.va.ownBlock := by rw [HU.out]; exact hgr.trans (World.grownBy_alloc _ _ _)
      have horU : U.ownsRow N0 4 1 q.va rs.length (bl.map Value.bool) := by rw [HU.out]; exact hor.alloc _
      have hGU := HG.out.marks hgrU horU
      have hlook := (hGU.map.same (w' := U.drew) rfl).look j0 j1
      obtain ⟨ia, ic, hV⟩ := own_shape (hGU.rows s.c s.r)
      rw [hV] at hlook
      have hIl := hGU.len s.c s.r
      have m0 : U.cell? ⟨G, 1, none⟩ = some (.map (some M)) := hGU.box.cell 1 (by simp)
      have hGU0 := hGU.box.lt
      have XU : Blk U wr.heap.size [.int .i64 s.c, .int .i64 s.r] := by rw [HU.out]; exact Blk.new wr [.int .i64 s.c, .int .i64 s.r] _
      have e0 : U.cell? ⟨wr.heap.size, 0, none⟩ = some (.int .i64 s.c) := XU.cell 0 (by simp)
      have e1 : U.cell? ⟨wr.heap.size, 1, none⟩ = some (.int .i64 s.r) := XU.cell 1 (by simp)
      have HGU : Hid (Grid N0 G M X U rs n { q with bl := bl }) := hGU
      unfold sqV at hlook
      clear hx hTb hor hgr hGU XU
      go_wp2
      rw [← HU.out]
      go_region_held3 (fun w' => w'.cell? ⟨G, 1, none⟩ = some (.map (some M)) ∧ w'.cell? ⟨wr.heap.size, 0, none⟩ = some (.int .i64 s.c) ∧ w'.cell? ⟨wr.heap.size, 1, none⟩ = some (.int .i64 s.r) ∧ (Instr.lookup 62 (.map (some M)) (.agg #[.int .i64 s.c, .int .i64 s.r]) false).run Try.prog w' = .ok (.slice ia (q.I s.c s.r).length ic) w')
        (exact ⟨m0, e0, e1, hlook⟩) (fail)
      go_wp2
      go_loopw [28] (fun i wr => ∃ (j : Nat) (bl : List Bool), j ≤ (q.I s.c s.r).length ∧ i = .int .i64 j ∧ wr.ownsRow N0 4 1 q.va rs.length (bl.map Value.bool) ∧ b.grownBy wr q.va.ownBlock ∧ Off rs p bl ∧ ∀ i ∈ (q.I s.c s.r).take j, NoM rs p i) (fun i _ => (q.I s.c s.r).length - (intOf i).toNat)
      case atStart => exact ⟨0, bl, Nat.zero_le _, rfl, horU.drew, hgrU.trans (grown_any ((Bel.refl U).drew) _), HOf.out, fun i hi => by simp at hi⟩
      case round =>
        clear horU hgrU m0 e0 e1 hlook HOf c0 c1 hbb HU
        obtain ⟨j, bl2, hj, rfl, ho2, hg2, hof2, hd2⟩ := hrel
        have HOf : Hid (Off rs p bl2) := hof2
        have HD2 : Hid (∀ i ∈ (q.I s.c s.r).take j, NoM rs p i) := hd2
        have hG2 := HG.out.marks hg2 ho2
        clear hof2 hd2
        by_cases hltj : j < (q.I s.c s.r).length
        · have hrow := hG2.rows s.c s.r
          have hmem := hG2.mem s.c s.r _ (List.getElem_mem hltj)
          rw [hV] at hrow
          obtain ⟨gi, cap', e⟩ := own_some hrow (by show 0 < (q.I s.c s.r).length; omega)
          injection e with e1 _ e3
          clear e3
          subst e1
          have ci := own_int hrow hltj
          obtain ⟨i, Hi⟩ : ∃ i, Hid (i = (q.I s.c s.r)[j]) := ⟨_, (rfl : (q.I s.c s.r)[j] = _)⟩
          rw [← Hi.out] at ci
          have hmem : i < rs.length := by rw [Hi.out]; exact hmem
          obtain ⟨ga, ca, hva⟩ := own_some hG2.asked (by omega)
          have y2 : wr.cell? ⟨G, 2, none⟩ = some q.va := hG2.box.cell 2 (by simp)
          have hG2l := hG2.box.lt
          have ho2' := ho2
          rw [hva] at y2 ho2'
          have Hva : Hid (q.va = .slice (some ⟨ga, 0, none⟩) rs.length ca) := hva
          clear hva
          obtain ⟨x, hx, cx⟩ := own_bool ho2' hmem
          have fx := ho2'.frozenAt i
          have hij : (j : Int) < ((q.I s.c s.r).length : Int) := by omega
          have hir : (i : Int) < (rs.length : Int) := by omega
          cases x
          · obtain ⟨hs1, hs2⟩ := ho2'.stored i (.bool true)
            obtain ⟨W3, HW3⟩ : ∃ W, Hid (W = wr.setCell ⟨ga, i, none⟩ (.bool true)) := ⟨_, (rfl : wr.setCell ⟨ga, i, none⟩ (.bool true) = _)⟩
            rw [← HW3.out] at hs1 hs2
            have hg3 : b.grownBy W3 q.va.ownBlock := hg2.trans (by rw [Hva.out]; exact hs2)
            have ho3 : W3.ownsRow N0 4 1 q.va rs.length ((bl2.set i true).map Value.bool) := by rw [Hva.out, List.map_set]; exact hs1
            have hG3 := HG.out.marks hg3 ho3
            obtain ⟨ra, rc, bs3, hvr, S3, _⟩ := Gr.out rmF.stays hG3.rooms
            obtain ⟨rb, ro, f3, rfl, hrb, hx3⟩ := S3.out hmem
            obtain ⟨_, _, r0, r1, r2, r3⟩ := hx3 i hmem
            have z0 : W3.cell? ⟨G, 0, none⟩ = some q.vr := hG3.box.cell 0 (by simp)
            have hz0 := hG3.box.lt
            have hvr' : q.vr = .slice (some ⟨rb, ro, none⟩) rs.length rc := hvr
            rw [hvr'] at z0
            have Xr := Xb.kept hg3 hwv
            have p0 : W3.cell? ⟨w.heap.size, 0, none⟩ = some (.int .i64 p.a) := Xr.cell 0 (by simp)
            have p1 : W3.cell? ⟨w.heap.size, 1, none⟩ = some (.int .i64 p.b) := Xr.cell 1 (by simp)
            have p2 : W3.cell? ⟨w.heap.size, 2, none⟩ = some (.int .i64 p.c) := Xr.cell 2 (by simp)
            have p3 : W3.cell? ⟨w.heap.size, 3, none⟩ = some (.int .i64 p.d) := Xr.cell 3 (by simp)
            obtain ⟨o, Ho⟩ : ∃ o, Hid (o = rs[i]) := ⟨_, (rfl : rs[i] = _)⟩
            rw [← Ho.out] at r0 r1 r2 r3
            have hwl := Xr.lt
            have HR : Hid (∀ v, Bel W3 v → v.cell? ⟨w.heap.size, 0, none⟩ = some (.int .i64 p.a) ∧ v.cell? ⟨w.heap.size, 1, none⟩ = some (.int .i64 p.b) ∧ v.cell? ⟨w.heap.size, 2, none⟩ = some (.int .i64 p.c) ∧ v.cell? ⟨w.heap.size, 3, none⟩ = some (.int .i64 p.d) ∧ v.cell? ⟨G, 0, none⟩ = some (.slice (some ⟨rb, ro, none⟩) rs.length rc) ∧ v.cell? ⟨rb, ro + i * 4, none⟩ = some (.int .i64 o.a) ∧ v.cell? ⟨rb, ro + i * 4 + 1, none⟩ = some (.int .i64 o.b) ∧ v.cell? ⟨rb, ro + i * 4 + 2, none⟩ = some (.int .i64 o.c) ∧ v.cell? ⟨rb, ro + i * 4 + 3, none⟩ = some (.int .i64 o.d)) := fun v h => ⟨bel_cellM h hwl p0, bel_cellM h hwl p1, bel_cellM h hwl p2, bel_cellM h hwl p3, bel_cellM h hz0 z0, bel_cellM h hrb r0, bel_cellM h hrb r1, bel_cellM h hrb r2, bel_cellM h hrb r3⟩
            have hW33 := Bel.refl W3
            clear hx3 S3 hG3 hG2 hs1 hs2 ho2 ho2' hg2 hrow Xr
            go_wp2
            rw [← HW3.out]
            go_region_held3 (fun w' => w'.cell? ⟨w.heap.size, 0, none⟩ = some (.int .i64 p.a) ∧ w'.cell? ⟨w.heap.size, 1, none⟩ = some (.int .i64 p.b) ∧ w'.cell? ⟨w.heap.size, 2, none⟩ = some (.int .i64 p.c) ∧ w'.cell? ⟨w.heap.size, 3, none⟩ = some (.int .i64 p.d) ∧ w'.cell? ⟨G, 0, none⟩ = some (.slice (some ⟨rb, ro, none⟩) rs.length rc) ∧ w'.cell? ⟨rb, ro + i * 4, none⟩ = some (.int .i64 o.a) ∧ w'.cell? ⟨rb, ro + i * 4 + 1, none⟩ = some (.int .i64 o.b) ∧ w'.cell? ⟨rb, ro + i * 4 + 2, none⟩ = some (.int .i64 o.c) ∧ w'.cell? ⟨rb, ro + i * 4 + 3, none⟩ = some (.int .i64 o.d))
              (exact HR.out _ (by with_reducible (repeat (first | assumption | refine Bel.drew ?_))))
              (first | (go_at_call 39; refine (bm_any p.a p.b p.c p.d o.a o.b o.c o.d (mtB p o) _ rfl).mono ?_; rintro e w4 ⟨rfl, hb4⟩; refine (fun hb34 : Bel W3 w4 => ?_) (bel_step (Bel.refl W3).drew hb4)))
            have hg4 : b.grownBy w4 q.va.ownBlock := hg3.trans (grown_any hb34 _)
            have ho4 : w4.ownsRow N0 4 1 q.va rs.length ((bl2.set i true).map Value.bool) := ho3.kept (bel_none hb34) (Classical.em _)
            rcases Bool.eq_false_or_eq_true (mtB p o) with hmt | hmt
            · have HF : Hid (frB rs p = false) := frB_false hmem (by rw [← Ho.out]; exact hmt)
              rw [hmt]
              go_wp2
              exact bodyPost_ret (v := .bool false) (by simp [results, Try.results60, go_sem]) rfl ⟨⟨_, by rw [HF.out], ho4, (grown_any hwb _).trans hg4⟩⟩
            · have HN : Hid (NoM rs p i) := fun h => by rw [← Ho.out]; exact hmt
              rw [hmt]
              go_wp2
              go_roundw
              case rel => exact ⟨j + 1, bl2.set i true, by omega, by go_num, ho4, hg4, HOf.out.set HN.out, fun t ht => by
                rw [List.take_succ_eq_append_getElem hltj, List.mem_append, List.mem_singleton] at ht
                rcases ht with ht | rfl
                · exact HD2.out t ht
                · rw [← Hi.out]; exact HN.out⟩
              case measure => simp [intOf]; omega
          · have HN : Hid (NoM rs p i) := HOf.out i hx
            clear hG2 hrow ho2'
            go_wp2
            go_roundw
            case rel => exact ⟨j + 1, bl2, by omega, by go_num, ho2, hg2, HOf.out, fun t ht => by
              rw [List.take_succ_eq_append_getElem hltj, List.mem_append, List.mem_singleton] at ht
              rcases ht with ht | rfl
              · exact HD2.out t ht
              · rw [← Hi.out]; exact HN.out⟩
            case measure => simp [intOf]; omega
        · have e : j = (q.I s.c s.r).length := by omega
          subst e
          clear hG2
          go_wp2
          go_roundw
          case rel => exact ⟨k + 1, bl2, by omega, by go_num, ho2, hg2, HOf.out, fun t ht => by
            rw [List.take_succ_eq_append_getElem hkl, List.mem_append, List.mem_singleton] at ht
            rcases ht with ht | rfl
            · exact HDone.out t ht
            · rw [← Hs.out]; intro i hi; exact HD2.out i (by rw [List.take_length]; exact hi)⟩
          case measure => simp [intOf]; omega
    · have e : k = ns := by omega
      subst e
      have HF : Hid (frB rs p = true) := frB_true fun i hi => by
        by_cases hm : mtB p rs[i] = true
        · have hr := (HG.out.rooms.el i hi).2.1
          obtain ⟨t, t1, t2⟩ := mt_share hp hr hm
          exact HDone.out t (by rw [List.take_of_length_le (by rw [HL.out]; exact Nat.le_refl _)]; exact hall t t1) i (HG.out.all i hi t t2) hi
        · simpa using hm
      go_wp2
      exact bodyPost_ret (v := .bool true) (by simp [results, Try.results60, go_sem]) rfl ⟨⟨bl, by rw [HF.out], hor, (grown_any hwb _).trans hgr⟩⟩
end Go.Proofs.Ytpbpnkklnbmkeaa
