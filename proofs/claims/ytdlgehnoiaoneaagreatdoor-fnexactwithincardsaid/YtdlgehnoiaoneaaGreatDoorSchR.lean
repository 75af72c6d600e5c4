/-
  A search runs until nothing is open: contract of run, over any invariant of what it knows.
-/
import Derived.Test.YtdlgehnoiaoneaaGreatDoorGA
import Derived.Test.YtdlgehnoiaoneaaGreatDoorGM
import Derived.ScopeJumps
import Derived.WalkMore
import Derived.Deep.DeepCutAuto
namespace Go.Proofs.YtdlgehnoiaoneaaGreatDoor
open Go.RowKit Go.Maps

theorem least_nat {p : Nat → Prop} (h : ∃ n, p n) : ∃ m, p m ∧ ∀ k, p k → m ≤ k := by
 obtain ⟨n, hn⟩ := h
 induction n using Nat.strongRecOn with
 | _ n ih =>
  by_cases hx : ∃ k, k < n ∧ p k
  ·obtain ⟨k, hk, hp⟩ := hx
   exact ih k hk hp
  ·exact ⟨n, hn, fun k hk => Nat.le_of_not_lt fun hl => hx ⟨k, hl, hk⟩⟩
/-- A scope that begins with its label, with a number that no cell holds and that is less at each jump. -/
theorem wp_scope_ghost {Pr : Program} {rest : Code} {Q : Exit → Act → World → Prop} {a : Act} {w : World} (l : Nat) (J : Nat → Act → World → Prop) (n : Nat) (h0 : J n a w)
  (pass : ∀ n a w, J n a w → rest.wp Pr (Exit.jump l (fun a' w' => ∃ n', n' < n ∧ J n' a' w') Q) a w) : (Code.scope ((Code.label l).seq rest)).wp Pr Q a w := by
 classical
 have hmin : ∀ a w, (∃ n, J n a w) → ∃ m, J m a w ∧ ∀ k, J k a w → m ≤ k := fun a w h => least_nat h
 refine wp_scope_jumps l (fun a w => ∃ n, J n a w) (fun a w => if h : ∃ n, J n a w then Classical.choose (hmin a w h) else 0) (rest := Code.skip.seq rest) (by simp [findLabel]) ?_ ?_
 ·refine wp_seq (wp_label ?_)
  refine Code.wp_mono (fun e a w h => ?_) (pass n a w h0)
  cases e with
  | goto l' => exact ⟨h.1, by obtain ⟨n', _, hj⟩ := h.2; exact ⟨n', hj⟩⟩
  | _ => exact h
 ·intro a w h
  have hc := Classical.choose_spec (hmin a w h)
  refine wp_seq (wp_skip ?_)
  refine Code.wp_mono (fun e a' w' h' => ?_) (pass _ a w hc.1)
  cases e with
  | goto l' =>
   obtain ⟨e1, n', hlt, hj⟩ := h'
   refine ⟨e1, ⟨n', hj⟩, ?_⟩
   have hx : ∃ n, J n a' w' := ⟨n', hj⟩
   have := (Classical.choose_spec (hmin a' w' hx)).2 n' hj
   simp only [dif_pos hx, dif_pos h]
   omega
  | _ => exact h'
theorem Lft.fr4 {base : Nat} {w w' : World} {vl : Value} {Ls : List (List Nat)} (h : Lft base w vl Ls) (hf : Fr4 base w w') : Lft base w' vl Ls := by
 obtain ⟨hs, h1, h2, h3⟩ := h
 exact ⟨hs, hf.own h1 (by decide), fun p hp => by obtain ⟨a, c, e, hr⟩ := h2 p hp; exact ⟨a, c, e, fun h0 => hf.own (hr h0) (by decide)⟩, h3⟩
theorem Stc.frx {base : Nat} {S : SrS} {g : GraphD} {b1 : List Nat} {nb : Nat} {w w' : World} (h : Stc base S g b1 nb w) (hf : Frx (fun k => k < base) w w') : Stc base S g b1 nb w' := by
 refine ⟨h.roads.alike roadE fun b hb' => ?_, h.low, ?_, h.wlow, ?_, h.blow, h.len, h.ok⟩
 ·have hl := h.roads.lt roadE b hb'
  have e := hf.block b hl (h.low b hb')
  exact ⟨Nat.lt_of_lt_of_le hl hf.size, fun o => World.cell?_of_block e, fun o => World.frozen?_of_block e⟩
 ·have e := hf.block S.Wd h.winds.lt h.wlow
  exact ⟨Nat.lt_of_lt_of_le h.winds.lt hf.size, fun i hi => by rw [World.cell?_of_block e]; exact h.winds.done i hi, fun i hi => by rw [World.cell?_of_block e]; exact h.winds.there i hi, fun i => by rw [World.frozen?_of_block e]; exact h.winds.free i⟩
 ·obtain ⟨D, hm, h3⟩ := h.bans
  have hl := hm.lt
  obtain ⟨es, clock, h1, h2⟩ := hm
  exact ⟨D, ⟨es, clock, by rw [hf.block S.M hl h.blow]; exact h1, h2⟩, h3⟩
/-- What is to hold of what a search knows, and how it goes on. -/
structure RunJ (S : SrS) (g : GraphD) (J : Sig → List (List Nat) → Nat → Prop) : Prop where
 ok : ∀ s Ls n, J s Ls n → okO s.l ∧ (∀ y ∈ s.pd, y < s.l.length) ∧ s.l.length ≤ 90000000 ∧ s.pd.length ≤ 90000000 ∧ s.bl.length = S.n1 ∧ S.n1 ≤ 1000000 ∧ Ls.length ≤ 1000000 ∧ ∀ y (h : y < s.l.length), s.l[y].r < S.n1
 skip : ∀ s Ls n y pd' (hy : y < s.l.length), J s Ls n → (y :: pd').Perm s.pd → (∀ y' ∈ s.pd, okey s.l y ≤ okey s.l y') → cLtB (cAt s.bl s.l[y].r) s.l[y].c = true → ∃ n', n' < n ∧ J ⟨s.bl, s.l, pd'⟩ Ls n'
 next : ∀ s Ls n y pd' (hy : y < s.l.length), J s Ls n → (y :: pd').Perm s.pd → (∀ y' ∈ s.pd, okey s.l y ≤ okey s.l y') → cLtB (cAt s.bl s.l[y].r) s.l[y].c = false →
  ∃ (p : Nat) (hp : p < Ls.length) (z : Cst), plcB S.back g s.l[y].r = (p : Int) ∧ (∀ x ∈ Ls[p], x < S.n1) ∧ Okk S s.l[y].r z 90000000 90000000 ⟨s.bl, s.l, pd'⟩ ∧ (0 ≤ z.t ∧ z.t ≤ 1000000000000 ∧ 0 ≤ z.c ∧ z.c ≤ 1000000) ∧ Ls[p].length ≤ 1000000 ∧
   ∃ n', n' < n ∧ J (stP S g s.l[y].r ⟨s.bl, s.l, pd'⟩ Ls[p] Ls[p].length).1 (Ls.set p (stP S g s.l[y].r ⟨s.bl, s.l, pd'⟩ Ls[p] Ls[p].length).2) n'
/-- A search in memory, as it runs. -/
def RunW (base P : Nat) (S : SrS) (vl : Value) (g : GraphD) (b1 : List Nat) (nb : Nat) (J : Sig → List (List Nat) → Nat → Prop) (w0 : World) (n : Nat) (w : World) : Prop :=
 ∃ s Ls, J s Ls n ∧ St4 base P S vl w s ∧ Lft base w vl Ls ∧ Stc base S g b1 nb w ∧ Frx (fun k => k < base) w0 w
/-- The first of the open ones is taken out, and lies in a block of its own. -/
structure RunCut (base P : Nat) (S : SrS) (vl : Value) (s : Sig) (y : Nat) (o : OffD) (w : World) (t : Value) (wx : World) : Prop where
 out : ∃ B ys', t = .pointer (some ⟨B, 0, none⟩) ∧ Blk wx B (offCs o) ∧ St4 base P S vl wx ⟨s.bl, s.l, ys'⟩ ∧ (y :: ys').Perm s.pd ∧ Fr4 base w wx
theorem own_far {w : World} {lo : Nat} {e : TypeId} {q n B : Nat} {v : Value} {xs : List Value} (h : w.ownsRow lo e q v n xs) (hne : ∀ k, v.ownBlock = some k → k < B) (j : Nat) (u : Value) : (w.setCell ⟨B, j, none⟩ u).ownsRow lo e q v n xs := by
 cases hv : v.ownBlock with
 | none => exact h.kept (setCell_grown w B j u) (.inl hv)
 | some k => exact h.kept (setCell_grown w B j u) (.inr (by rw [hv]; intro e; injection e with e; have := hne k hv; omega))
theorem Fr4.new {base B : Nat} {w V : World} (h : Fr4 base w V) (hB : w.heap.size ≤ B) (j : Nat) (u : Value) : Fr4 base w (V.setCell ⟨B, j, none⟩ u) := by
 have hg := setCell_grown V B j u
 exact ⟨hg.os.trans h.os, hg.tape.trans h.tape, hg.output.trans h.output, Nat.le_trans h.size hg.size, fun k hk hx => (hg.block k (Nat.lt_of_lt_of_le hk h.size) (fun e => by injection e with e; omega)).trans (h.block k hk hx)⟩
theorem RunCut.put {base P : Nat} {S : SrS} {vl vb vo vi : Value} {s : Sig} {y B : Nat} {o : OffD} {ys' : List Nat} {w V : World} (hP : SrP base S P V vb vl vo vi) (hO : SrO base V vo s.l) (hB : SrB base V vb s.bl) (hI : V.ownsRow base 3 1 vi ys'.length (intsN ys')) (hH : Hp (okey s.l) ys') (hp : (y :: ys').Perm s.pd) (hX : Blk V B [.int .i64 0, .int .i64 0, .int .i64 0]) (hF : Fr4 base w V) (hw : w.heap.size ≤ B)
  (l0 : P < B) (l1 : ∀ k, vb.ownBlock = some k → k < B) (l2 : ∀ k, vo.ownBlock = some k → k < B) (l3 : ∀ k, vi.ownBlock = some k → k < B) :
  RunCut base P S vl s y o w (.pointer (some ⟨B, 0, none⟩)) (((V.setCell ⟨B, 0, none⟩ (.int .i64 o.c.t)).setCell ⟨B, 1, none⟩ (.int .i64 o.c.c)).setCell ⟨B, 2, none⟩ (.int .i64 (o.r : Int))) := by
 have l0' : ∀ k, (Value.slice (some ⟨P, 0, none⟩) 1 1).ownBlock = some k → k < B := fun k e => by
  have e : P = k := by simpa [Value.ownBlock] using e
  omega
 refine ⟨B, ys', rfl, ((hX.set 0 _ (by simp)).set 1 _ (by simp)).set 2 _ (by simp), ⟨⟨vb, vo, vi, ys', own_far (own_far (own_far hP l0' _ _) l0' _ _) l0' _ _, own_far (own_far (own_far hB l1 _ _) l1 _ _) l1 _ _, own_far (own_far (own_far hO l2 _ _) l2 _ _) l2 _ _, own_far (own_far (own_far hI l3 _ _) l3 _ _) l3 _ _, List.Perm.refl _, hH⟩⟩, hp, ((hF.new hw _ _).new hw _ _).new hw _ _⟩
theorem blk_frx {X : Nat → Prop} {a b : World} {B : Nat} {l : List Value} (h : Blk a B l) (hf : Frx X a b) (hx : X B) : Blk b B l := by
 have e := hf.block B h.lt hx
 exact ⟨Nat.lt_of_lt_of_le h.lt hf.size, fun j hj => by rw [World.cell?_of_block e]; exact h.cell j hj, fun j => by rw [World.frozen?_of_block e]; exact h.free j⟩
theorem own_lt {w : World} {lo : Nat} {e : TypeId} {q n : Nat} {v : Value} {xs : List Value} (h : w.ownsRow lo e q v n xs) : ∀ k, v.ownBlock = some k → k < w.heap.size := fun k hk => (h.lt k hk).2

theorem SrO.at2 {base : Nat} {w : World} {oa : Option Addr} {n cap : Nat} {l : List OffD} (h : w.ownsRow base 114 3 (.slice oa n cap) n (l.flatMap offCs)) (hn : l.length = n) {i : Nat} (hi : i < l.length) :
  ∃ g, oa = some ⟨g, 0, none⟩ ∧ w.cell? ⟨g, i * 3, none⟩ = some (.int .i64 l[i].c.t) ∧ w.cell? ⟨g, i * 3 + 1, none⟩ = some (.int .i64 l[i].c.c) ∧ w.cell? ⟨g, i * 3 + 2, none⟩ = some (.int .i64 (l[i].r : Int)) := by
 subst hn
 obtain ⟨g, c, e, _, _⟩ := own_in h (by omega)
 injection e with e1 e2 e3
 subst e1 e3
 exact ⟨g, rfl, SrO.at h rfl hi⟩

set_option maxRecDepth 100000 in
set_option maxHeartbeats 4000000 in
theorem run_any (base P : Nat) (S : SrS) (vl : Value) (g : GraphD) (b1 : List Nat) (nb : Nat) (J : Sig → List (List Nat) → Nat → Prop) (hJ : RunJ S g J) (n0 : Nat) (w : World) (hw : RunW base P S vl g b1 nb J w n0 w) :
  Calls Tryz.prog 86 #[.pointer (some ⟨P, 0, none⟩)] w fun e w' => e = .returned (.tuple #[]) ∧ ∃ n, RunW base P S vl g b1 nb (fun s Ls n => J s Ls n ∧ s.pd = []) w n w' := by
 have HJ : Hid (RunJ S g J) := hJ
 have HW0 : Hid (RunW base P S vl g b1 nb J w n0 w) := hw
 clear hJ hw
 go_enter Tryz.func86, Tryz.ntmps86
 refine wp_scope_ghost 0 (fun n a' w' => ∃ u2 u3 u4 u5 u6 u7 u8 u9 u10 u11 u12 u13 u14 u15 u16 u17 u18 u19 u20 u21 u22 u23 u24 u25 u26 u27 u28 u29 u30 u31 u32 u33 u34 : Value, a' = { tmps := #[.pointer (some ⟨P, 0, none⟩), undef, u2, u3, u4, u5, u6, u7, u8, u9, u10, u11, u12, u13, u14, u15, u16, u17, u18, u19, u20, u21, u22, u23, u24, u25, u26, u27, u28, u29, u30, u31, u32, u33, u34], defers := [] } ∧ Hid (RunW base P S vl g b1 nb J w n w')) n0 ⟨_, _, _, _, _, _, _, _, _, _, _, _, _, _, _, _, _, _, _, _, _, _, _, _, _, _, _, _, _, _, _, _, _, rfl, HW0⟩ ?_
 clear HW0
 rintro n a' wr ⟨u2, u3, u4, u5, u6, u7, u8, u9, u10, u11, u12, u13, u14, u15, u16, u17, u18, u19, u20, u21, u22, u23, u24, u25, u26, u27, u28, u29, u30, u31, u32, u33, u34, rfl, HW⟩
 obtain ⟨s, Ls, hj, hS, hL, hC, hF⟩ := HW.out
 obtain ⟨hok, hpd, hll, hpl, hbl, hn1, hLm, hlr⟩ := HJ.out.ok s Ls n hj
 have HJs : Hid (J s Ls n) := hj
 have HS : Hid (St4 base P S vl wr s) := hS
 have HL : Hid (Lft base wr vl Ls) := hL
 have HC : Hid (Stc base S g b1 nb wr) := hC
 have HF : Hid (Frx (fun k => k < base) w wr) := hF
 obtain ⟨vb, vo, vi, ys, hP, hB, hO, hI, hYp, hH⟩ := hS.out
 obtain ⟨ia, ic, rfl⟩ := own_shape hI
 have p12 : wr.cell? ⟨P, 12, none⟩ = some (.slice ia ys.length ic) := SrP.at hP 12 (by omega)
 have pl := (SrP.lt hP).2
 clear HW hj hS hL hC hF
 by_cases h0 : ys.length = 0
 ·have HE : Hid (s.pd = []) := (by
   have h1 := hYp.length_eq
   rw [h0] at h1
   exact List.length_eq_zero_iff.1 h1.symm : s.pd = [])
  rw [h0] at p12
  clear hP hB hO hI hYp hH hok hpd
  go_wp2
  simp only [Exit.jump]
  first | go_end0 | refine bodyPost_ret (v := .tuple #[]) (by simp [results, Tryz.results86, go_sem]) rfl ?_
  exact ⟨rfl, n, s, Ls, ⟨HJs.out, HE.out⟩, HS.out, HL.out, HC.out, HF.out⟩
 ·have h0' : 0 < ys.length := by omega
  have hne : ((ys.length : Int) == 0) = false := by rw [beq_eq_false_iff_ne]; omega
  have hyp : ys[0] < s.l.length := hpd _ (hYp.mem_iff.1 (List.getElem_mem _))
  have hmin : ∀ y' ∈ s.pd, okey s.l ys[0] ≤ okey s.l y' := fun y' hy' => by
   obtain ⟨j, hj, rfl⟩ := List.getElem_of_mem (hYp.mem_iff.2 hy')
   exact hH.top j hj
  obtain ⟨y, Hy⟩ : ∃ y, Hid (ys[0] = y) := ⟨_, (rfl : ys[0] = _)⟩
  have Hok : Hid (okO s.l) := hok
  have HYp : Hid (ys.Perm s.pd) := hYp
  have HH : Hid (Hp (okey s.l) ys) := hH
  have HYl : Hid (∀ y ∈ ys, y < s.l.length) := fun y h => hpd y (hYp.mem_iff.1 h)
  have hym : ys.length ≤ 100000000 := by rw [hYp.length_eq]; omega
  have Hmin : Hid (∀ y' ∈ s.pd, okey s.l y ≤ okey s.l y') := (by rw [← Hy.out]; exact hmin : ∀ y' ∈ s.pd, okey s.l y ≤ okey s.l y')
  rw [Hy.out] at hyp
  obtain ⟨o, Ho⟩ : ∃ o, Hid (s.l[y] = o) := ⟨_, (rfl : s.l[y] = _)⟩
  have hor : o.r < S.n1 := by rw [← Ho.out]; exact hlr y hyp
  obtain ⟨oa, oc, rfl⟩ := own_shape hO
  obtain ⟨m, HM⟩ : ∃ m, Hid (s.l.length = m) := ⟨_, (rfl : s.l.length = _)⟩
  have hyI : (y : Int) < (m : Int) := by rw [← HM.out]; omega
  rw [HM.out] at hP
  have hO' : wr.ownsRow base 114 3 (.slice oa m oc) m (s.l.flatMap offCs) := by have h := hO; unfold SrO at h; rw [HM.out] at h; exact h
  obtain ⟨og, rfl, _⟩ := SrO.at2 hO' HM.out hyp
  clear hO hok hpd hYp hH hmin
  go_upto_region 1 with fail
  clear p12 pl
  go_cut [2] (fun t wx => RunCut base P S vl s y o wr t wx)
  case first =>
   refine wp_region_noPanic ?_
   refine wp_region_held_drew (S := (fun w' => w'.cell? ⟨P, 11, none⟩ = some (.slice (some ⟨og, 0, none⟩) m oc) ∧ w'.ownsRow base 114 3 (.slice (some ⟨og, 0, none⟩) m oc) m (s.l.flatMap offCs))) (by kernel_rfl) (⟨SrP.at hP 11 (by omega), hO'⟩) (fun hHeld => ?_)
   have HY0 : Hid (Bel wr wr.drew) := (Bel.refl _).drew
   generalize wr.drew = Y at hHeld HY0 ⊢
   refine tk 0 hHeld ?_; refine tk 1 hHeld ?_; refine tk 2 hHeld ?_; refine tk 3 hHeld ?_; refine tk 4 hHeld ?_; refine tk 5 hHeld ?_
   refine tk 6 hHeld ?_
   have hPy := own_bel hP HY0.out
   have hBy := own_bel hB HY0.out
   have hOy := own_bel hO' HY0.out
   have hIy := own_bel hI HY0.out
   refine rd2 7 10 (fun K hK => ?_) (fun K hK => ?_)
   ·go_simp
    refine (pop_any base P S vb vl (.slice (some ⟨og, 0, none⟩) m oc) (.slice ia ys.length ic) s.l ys Y hPy (by rw [← HM.out] at hOy ⊢; exact hOy) hIy h0' Hok.out HYl.out HH.out (by omega) hym).mono ?_
    rintro e wZ ⟨rfl, hZ⟩
    obtain ⟨vi', ys', z1, z2, z3, z4, z5, z6, z7⟩ := hZ.out
    unfold SrO at z2
    rw [HM.out] at z2
    go_wp2_with fail
    rw [Hy.out]
    refine hK.out _ _ (⟨SrP.at z1 11 (by omega), z2⟩) ?_; clear hK K hHeld; intro hHeld
    try simp only [Act.put, List.setIfInBounds_toArray, List.set_cons_zero, List.set_cons_succ]
    have zB : SrB base wZ vb s.bl := own_frx hBy z6 (fun k e => ⟨fun ek => own_apart hBy hPy (by decide) e (by rw [ek]; rfl), fun ek => own_apart hBy hIy (by decide) e ek.symm⟩)
    have zF := Fr4.ofFrx hPy hIy z6
    have zPm : (y :: ys').Perm s.pd := (by rw [← Hy.out]; exact z4.trans HYp.out)
    refine tk 8 hHeld ?_
    refine wpAnyH_take (S := (fun w' => w'.cell? ⟨P, 11, none⟩ = some (.slice (some ⟨og, 0, none⟩) m oc) ∧ w'.ownsRow base 114 3 (.slice (some ⟨og, 0, none⟩) m oc) m (s.l.flatMap offCs))) (i := 9) (oi := { dst := some 19, op := Go.Op.load 114 (Go.Operand.tmp 18), type := 114, pos := "l10_paths.go:229", after := #[{ on := 8, ground := Go.Ground.data }], guard := none }) (v := ?vy2) rfl (by kernel_rfl) (by kernel_rfl) (by kernel_rfl) (fun _ _ _ h => h) (Or.inl ⟨by rfl, ?hy2⟩) hHeld ?ry2
    case hy2 => (intro w hSw; (try dsimp only at hSw); obtain ⟨g2, eg, q0, q1, q2⟩ := SrO.at2 hSw.2 HM.out hyp; injection eg with eg; injection eg with eg; subst eg; rw [Ho.out] at q0 q1 q2; go_simp; try with_reducible rfl)
    try simp only [Act.put, List.setIfInBounds_toArray, List.set_cons_zero, List.set_cons_succ]
    refine rd1 10 (fun K hK => ?_)
    go_simp
    refine hK.out _ _ (⟨SrP.at (World.ownsRow.alloc z1 _) 11 (by omega), z2.alloc _⟩) ?_; clear hK K hHeld; intro hHeld
    try simp only [Act.put, List.setIfInBounds_toArray, List.set_cons_zero, List.set_cons_succ]
    have l0 : ∀ k, (Value.slice (some ⟨P, 0, none⟩) 1 1).ownBlock = some k → k < wZ.heap.size := own_lt z1
    have l1 := own_lt zB
    have l2 := own_lt z2
    have l3 := own_lt z3
    replace z1 := World.ownsRow.alloc z1 (.cells #[.int .i64 0, .int .i64 0, .int .i64 0] 114)
    replace z2 := z2.alloc (.cells #[.int .i64 0, .int .i64 0, .int .i64 0] 114)
    replace z3 := z3.alloc (.cells #[.int .i64 0, .int .i64 0, .int .i64 0] 114)
    replace zB := World.ownsRow.alloc zB (.cells #[.int .i64 0, .int .i64 0, .int .i64 0] 114)
    have XB := Blk.new wZ [.int .i64 0, .int .i64 0, .int .i64 0] 114
    have zFr : Fr4 base wr (wZ.alloc (.cells #[.int .i64 0, .int .i64 0, .int .i64 0] 114)) := (Fr4.bel HY0.out).trans (zF.trans (Fr4.bel (bel_alloc (Bel.refl _) _)))
    have hwB : wr.heap.size ≤ wZ.heap.size := ((Fr4.bel (base := base) HY0.out).trans zF).size
    clear hPy hBy hOy hIy z6 z7 z4 zF hZ
    generalize hBq : wZ.heap.size = B at *
    generalize wZ.alloc (.cells #[.int .i64 0, .int .i64 0, .int .i64 0] 114) = V at *
    have kk0 := XB.cell 0 (by simp)
    have kk1 := XB.cell 1 (by simp)
    have kk2 := XB.cell 2 (by simp)
    have kf0 := XB.free 0
    have kf1 := XB.free 1
    have kf2 := XB.free 2
    have kkl := XB.lt
    simp only [List.getElem_cons_zero, List.getElem_cons_succ] at kk0 kk1 kk2
    refine rd1 11 (fun K hK => ?_)
    go_simp
    refine hK.out _ _ (⟨SrP.at (own_far (own_far (own_far z1 l0 _ _) l0 _ _) l0 _ _) 11 (by omega), own_far (own_far (own_far z2 l2 _ _) l2 _ _) l2 _ _⟩) ?_; clear hK K hHeld; intro hHeld
    try simp only [Act.put, List.setIfInBounds_toArray, List.set_cons_zero, List.set_cons_succ]
    refine wpAnyH_done (by kernel_rfl) ?_ _
    refine NoPanic.normal ?_
    go_wp2_with fail
    go_meet
    case rel => exact RunCut.put (o := o) z1 (by rw [← HM.out] at z2 ⊢; exact z2) zB z3 z5 zPm XB zFr hwB (by have := l0 P rfl; omega) l1 l2 l3
   ·go_simp
    refine hK.out _ _ (⟨SrP.at (World.ownsRow.alloc hPy _) 11 (by omega), hOy.alloc _⟩) ?_; clear hK K hHeld; intro hHeld
    try simp only [Act.put, List.setIfInBounds_toArray, List.set_cons_zero, List.set_cons_succ]
    have l0 : ∀ k, (Value.slice (some ⟨P, 0, none⟩) 1 1).ownBlock = some k → k < Y.heap.size := own_lt hPy
    have l1 := own_lt hBy
    have l2 := own_lt hOy
    have l3' := own_lt hIy
    replace hPy := World.ownsRow.alloc hPy (.cells #[.int .i64 0, .int .i64 0, .int .i64 0] 114)
    replace hOy := hOy.alloc (.cells #[.int .i64 0, .int .i64 0, .int .i64 0] 114)
    replace hIy := hIy.alloc (.cells #[.int .i64 0, .int .i64 0, .int .i64 0] 114)
    replace hBy := World.ownsRow.alloc hBy (.cells #[.int .i64 0, .int .i64 0, .int .i64 0] 114)
    have XB0 := Blk.new Y [.int .i64 0, .int .i64 0, .int .i64 0] 114
    have yFr : Fr4 base wr (Y.alloc (.cells #[.int .i64 0, .int .i64 0, .int .i64 0] 114)) := Fr4.bel (bel_step HY0.out (bel_alloc (Bel.refl _) _))
    have hwB : wr.heap.size ≤ Y.heap.size := HY0.out.out.size
    generalize hBq : Y.heap.size = B at *
    generalize Y.alloc (.cells #[.int .i64 0, .int .i64 0, .int .i64 0] 114) = YA at *
    refine rd1 7 (fun K hK => ?_)
    go_simp
    refine (pop_any base P S vb vl (.slice (some ⟨og, 0, none⟩) m oc) (.slice ia ys.length ic) s.l ys YA hPy (by rw [← HM.out] at hOy ⊢; exact hOy) hIy h0' Hok.out HYl.out HH.out (by omega) hym).mono ?_
    rintro e wZ ⟨rfl, hZ⟩
    obtain ⟨vi', ys', z1, z2, z3, z4, z5, z6, z7⟩ := hZ.out
    unfold SrO at z2
    rw [HM.out] at z2
    go_wp2_with fail
    rw [Hy.out]
    refine hK.out _ _ (⟨SrP.at z1 11 (by omega), z2⟩) ?_; clear hK K hHeld; intro hHeld
    try simp only [Act.put, List.setIfInBounds_toArray, List.set_cons_zero, List.set_cons_succ]
    have zB : SrB base wZ vb s.bl := own_frx hBy z6 (fun k e => ⟨fun ek => own_apart hBy hPy (by decide) e (by rw [ek]; rfl), fun ek => own_apart hBy hIy (by decide) e ek.symm⟩)
    have zF := Fr4.ofFrx hPy hIy z6
    have zPm : (y :: ys').Perm s.pd := (by rw [← Hy.out]; exact z4.trans HYp.out)
    have l3 : ∀ k, vi'.ownBlock = some k → k < B := fun k e => l3' k (by rw [← z7]; exact e)
    have XB := blk_frx XB0 z6 ⟨fun e => by have := l0 P rfl; omega, fun e => absurd (l3' B e.symm) (Nat.lt_irrefl _)⟩
    have zFr : Fr4 base wr wZ := yFr.trans zF
    clear hPy hBy hOy hIy z6 z7 z4 zF hZ XB0
    refine tk 8 hHeld ?_
    refine wpAnyH_take (S := (fun w' => w'.cell? ⟨P, 11, none⟩ = some (.slice (some ⟨og, 0, none⟩) m oc) ∧ w'.ownsRow base 114 3 (.slice (some ⟨og, 0, none⟩) m oc) m (s.l.flatMap offCs))) (i := 9) (oi := { dst := some 19, op := Go.Op.load 114 (Go.Operand.tmp 18), type := 114, pos := "l10_paths.go:229", after := #[{ on := 8, ground := Go.Ground.data }], guard := none }) (v := ?vy4) rfl (by kernel_rfl) (by kernel_rfl) (by kernel_rfl) (fun _ _ _ h => h) (Or.inl ⟨by rfl, ?hy4⟩) hHeld ?ry4
    case hy4 => (intro w hSw; (try dsimp only at hSw); obtain ⟨g2, eg, q0, q1, q2⟩ := SrO.at2 hSw.2 HM.out hyp; injection eg with eg; injection eg with eg; subst eg; rw [Ho.out] at q0 q1 q2; go_simp; try with_reducible rfl)
    try simp only [Act.put, List.setIfInBounds_toArray, List.set_cons_zero, List.set_cons_succ]
    have kk0 := XB.cell 0 (by simp)
    have kk1 := XB.cell 1 (by simp)
    have kk2 := XB.cell 2 (by simp)
    have kf0 := XB.free 0
    have kf1 := XB.free 1
    have kf2 := XB.free 2
    have kkl := XB.lt
    simp only [List.getElem_cons_zero, List.getElem_cons_succ] at kk0 kk1 kk2
    refine rd1 11 (fun K hK => ?_)
    go_simp
    refine hK.out _ _ (⟨SrP.at (own_far (own_far (own_far z1 l0 _ _) l0 _ _) l0 _ _) 11 (by omega), own_far (own_far (own_far z2 l2 _ _) l2 _ _) l2 _ _⟩) ?_; clear hK K hHeld; intro hHeld
    try simp only [Act.put, List.setIfInBounds_toArray, List.set_cons_zero, List.set_cons_succ]
    refine wpAnyH_done (by kernel_rfl) ?_ _
    refine NoPanic.normal ?_
    go_wp2_with fail
    go_meet
    case rel => exact RunCut.put (o := o) z1 (by rw [← HM.out] at z2 ⊢; exact z2) zB z3 z5 zPm XB zFr hwB (by have := l0 P rfl; omega) l1 l2 l3
  case rest =>
   obtain ⟨B, ys', rfl, XB, hS2, hPm, hF2⟩ := hcut.out
   obtain ⟨wA, rfl⟩ : ∃ V, V = wc := ⟨_, rfl⟩
   clear hcut hP hB hI hO'
   have HS2 : Hid (St4 base P S vl wA ⟨s.bl, s.l, ys'⟩) := hS2
   have HF2 : Hid (Fr4 base wr wA) := hF2
   have HPm : Hid ((y :: ys').Perm s.pd) := hPm
   have HXB : Hid (Blk wA B (offCs o)) := XB
   have HCl : Hid (∃ gb cb, ∀ w', Bel wA w' → w'.cell? ⟨P, 9, none⟩ = some (.slice (some ⟨gb, 0, none⟩) S.n1 cb) ∧ w'.cell? ⟨gb, o.r * 2, none⟩ = some (.int .i64 (cAt s.bl o.r).t) ∧ w'.cell? ⟨gb, o.r * 2 + 1, none⟩ = some (.int .i64 (cAt s.bl o.r).c)) := (by
    obtain ⟨vb2, vo2, vi2, yy, k1, k2, _⟩ := hS2.out
    have k2 : SrB base wA vb2 s.bl := k2
    obtain ⟨gb, cb, rfl, _, _⟩ := own_in k2 (by omega)
    refine ⟨gb, cb, fun w' h => ?_⟩
    have hrl : o.r < s.bl.length := by omega
    have q := SrB.at (own_bel k2 h) rfl hrl
    rw [← cAt_eq hrl] at q
    have s9 := SrP.at (own_bel k1 h) 9 (by omega)
    simp only [List.getElem_cons_zero, List.getElem_cons_succ] at s9
    rw [hbl] at s9
    exact ⟨s9, q.1, q.2⟩ : ∃ gb cb, ∀ w', Bel wA w' → w'.cell? ⟨P, 9, none⟩ = some (.slice (some ⟨gb, 0, none⟩) S.n1 cb) ∧ w'.cell? ⟨gb, o.r * 2, none⟩ = some (.int .i64 (cAt s.bl o.r).t) ∧ w'.cell? ⟨gb, o.r * 2 + 1, none⟩ = some (.int .i64 (cAt s.bl o.r).c))
   obtain ⟨gb, cb, hcl0⟩ := HCl.out
   obtain ⟨d, Hd⟩ : ∃ c, Hid (cAt s.bl o.r = c) := ⟨_, (rfl : cAt s.bl o.r = _)⟩
   obtain ⟨nn, Hnn⟩ : ∃ c, Hid (S.n1 = c) := ⟨_, (rfl : S.n1 = _)⟩
   have horI : (o.r : Int) < (nn : Int) := by rw [← Hnn.out]; omega
   have hcl : ∀ w', Bel wA w' → w'.cell? ⟨P, 9, none⟩ = some (.slice (some ⟨gb, 0, none⟩) nn cb) ∧ w'.cell? ⟨gb, o.r * 2, none⟩ = some (.int .i64 d.t) ∧ w'.cell? ⟨gb, o.r * 2 + 1, none⟩ = some (.int .i64 d.c) ∧ w'.cell? ⟨B, 0, none⟩ = some (.int .i64 o.c.t) ∧ w'.cell? ⟨B, 1, none⟩ = some (.int .i64 o.c.c) ∧ w'.cell? ⟨B, 2, none⟩ = some (.int .i64 (o.r : Int)) := fun w' h => by
    obtain ⟨k1, k2, k3⟩ := hcl0 w' h
    rw [Hd.out] at k2 k3
    rw [Hnn.out] at k1
    exact ⟨k1, k2, k3, (XB.bel h).cell 0 (by simp [offCs]), (XB.bel h).cell 1 (by simp [offCs]), (XB.bel h).cell 2 (by simp [offCs])⟩
   obtain ⟨b, Hb⟩ : ∃ b, Hid (cLtB d o.c = b) := ⟨_, (rfl : cLtB d o.c = _)⟩
   have cB : ∀ w', Calls Tryz.prog 73 #[cstV d, cstV o.c] w' fun e w'' => e = .returned (.bool b) ∧ Bel w' w'' := fun w' => before_r d o.c b w' Hb.out
   have g0 : Bel wA wA := Bel.refl _
   clear hcl0 HCl hS2 hF2 hPm XB
   go_upto_region 2 with fail
   go_region_held3 (fun w' => Bel wA w') (with_reducible (repeat (first | assumption | exact g0 | refine Bel.drew ?_ | refine bel_then (by assumption) ?_)))
    ((go_at_call 73; refine (cB _).mono ?_; rintro e w2 ⟨rfl, hb2⟩))
   have hH2 : Bel wA w2 := by assumption
   have HB2 : Hid (Bel wA w2) := hH2
   have k2 := (HXB.out.bel hH2).cell 2 (by simp [offCs])
   have kl := (HXB.out.bel hH2).lt
   have k2 : w2.cell? ⟨B, 2, none⟩ = some (.int .i64 (o.r : Int)) := k2
   have HFr : Hid (Fr4 base wr w2) := HF2.out.trans (Fr4.bel hH2)
   have HS3 : Hid (St4 base P S vl w2 ⟨s.bl, s.l, ys'⟩) := HS2.out.bel hH2
   have HL3 : Hid (Lft base w2 vl Ls) := HL.out.fr4 HFr.out
   have HC3 : Hid (Stc base S g b1 nb w2) := HC.out.fr HFr.out
   have HF3 : Hid (Frx (fun k => k < base) w w2) := HF.out.trans ⟨HFr.out.os, HFr.out.tape, HFr.out.output, HFr.out.size, fun k hk hb => HFr.out.block k hk (.inl hb)⟩
   have HbF : Hid (cLtB (cAt s.bl s.l[y].r) s.l[y].c = b) := (by rw [Ho.out, Hd.out, Hb.out] : cLtB (cAt s.bl s.l[y].r) s.l[y].c = b)
   clear hcl cB hH2
   cases b
   ·obtain ⟨p, hp, z, e1, e2, e3, e4, e5, n', hn', hJ'⟩ := HJ.out.next s Ls n y ys' hyp HJs.out HPm.out Hmin.out HbF.out
    rw [Ho.out] at e1 e3 hJ'
    have HJ' : Hid (J (stP S g o.r ⟨s.bl, s.l, ys'⟩ Ls[p] Ls[p].length).1 (Ls.set p (stP S g o.r ⟨s.bl, s.l, ys'⟩ Ls[p] Ls[p].length).2) n') := hJ'
    have HE3 : Hid (Okk S o.r z 90000000 90000000 ⟨s.bl, s.l, ys'⟩) := e3
    clear hJ' e3
    go_wp2_with fail
    refine (goOn_any base P S vl g b1 nb ⟨s.bl, s.l, ys'⟩ o.r z Ls p w2 HS3.out HC3.out HL3.out e1 hp hor e2 HE3.out e4 e5 hLm).mono ?_
    rintro e w4 ⟨rfl, hS4, hL4, hF4⟩
    have HFin : Hid (RunW base P S vl g b1 nb J w n' w4) := ⟨_, _, HJ'.out, hS4, hL4, HC3.out.frx hF4, HF3.out.trans hF4⟩
    clear hS4 hL4 hF4
    go_wp2
    go_step3
    exact ⟨rfl, n', hn', _, _, _, _, _, _, _, _, _, _, _, _, _, _, _, _, _, _, _, _, _, _, _, _, _, _, _, _, _, _, _, _, _, rfl, HFin⟩
   ·obtain ⟨n', hn', hJ'⟩ := HJ.out.skip s Ls n y ys' hyp HJs.out HPm.out Hmin.out HbF.out
    have HFin : Hid (RunW base P S vl g b1 nb J w n' w2) := ⟨_, _, hJ', HS3.out, HL3.out, HC3.out, HF3.out⟩
    clear hJ'
    go_wp2
    go_step3
    exact ⟨rfl, n', hn', _, _, _, _, _, _, _, _, _, _, _, _, _, _, _, _, _, _, _, _, _, _, _, _, _, _, _, _, _, _, _, _, _, rfl, HFin⟩
end Go.Proofs.YtdlgehnoiaoneaaGreatDoor
