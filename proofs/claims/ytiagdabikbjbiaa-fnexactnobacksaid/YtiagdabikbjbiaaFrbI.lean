/-
  A forbidden turn, in the program: contract.
-/
import Derived.Test.YtiagdabikbjbiaaBanX
import Derived.Test.YtiagdabikbjbiaaOnwI
import Derived.Test.YtiagdabikbjbiaaPlcI
import Derived.Deep.QuietTactic
namespace Go.Proofs.Ytiagdabikbjbiaa
open Go.RowKit Go.Maps

/-- One Road, and those that it may no more be followed by. -/
def onto (L : List BanD) (f : Int) (into : List Int) : List BanD := into.foldl (fun L t => capB L ⟨f, t⟩) L
/-- Every Road of the one list with every Road of the other. -/
def frbB (L : List BanD) (fr into : List Int) : List BanD := fr.foldl (fun L f => onto L f into) L
theorem onto_full {L : List BanD} (h : ¬ L.length ≤ 2000) (f : Int) : ∀ into : List Int, onto L f into = L
  | [] => rfl
  | t :: r => by unfold onto; rw [List.foldl_cons, capB_no h]; exact onto_full h f r
theorem frbB_full {L : List BanD} (h : ¬ L.length ≤ 2000) (into : List Int) : ∀ fr : List Int, frbB L fr into = L
  | [] => rfl
  | f :: r => by unfold frbB; rw [List.foldl_cons, onto_full h]; exact frbB_full h into r
theorem onto_len {L : List BanD} (h : L.length ≤ 2001) (f : Int) : ∀ into : List Int, (onto L f into).length ≤ 2001 := fun into => by
  unfold onto
  induction into generalizing L with
  | nil => exact h
  | cons t r ih => rw [List.foldl_cons]; exact ih (capB_len h)
theorem onto_step {L : List BanD} {f : Int} {into : List Int} {j : Nat} (hj : j < into.length) : onto L f (into.take (j + 1)) = capB (onto L f (into.take j)) ⟨f, into[j]⟩ := by
  unfold onto
  rw [List.take_succ_eq_append_getElem hj, List.foldl_append]; rfl
theorem frbB_step {L : List BanD} {fr into : List Int} {k : Nat} (hk : k < fr.length) : frbB L (fr.take (k + 1)) into = onto (frbB L (fr.take k) into) fr[k] into := by
  unfold frbB
  rw [List.take_succ_eq_append_getElem hk, List.foldl_append]; rfl
/-- Once there is one too many, that is all. -/
theorem frbB_end {L : List BanD} {fr into : List Int} {k j : Nat} (hk : k < fr.length) (hL : ¬ (onto (frbB L (fr.take k) into) fr[k] (into.take j)).length ≤ 2000) : frbB L fr into = onto (frbB L (fr.take k) into) fr[k] (into.take j) := by
  have e1 : onto (frbB L (fr.take k) into) fr[k] into = onto (onto (frbB L (fr.take k) into) fr[k] (into.take j)) fr[k] (into.drop j) := by
    unfold onto
    rw [← List.foldl_append, List.take_append_drop]
  rw [onto_full hL] at e1
  have e2 : frbB L fr into = frbB (frbB L (fr.take (k + 1)) into) (fr.drop (k + 1)) into := by
    unfold frbB
    rw [← List.foldl_append, List.take_append_drop]
  rw [e2, frbB_step hk, e1, frbB_full hL]

theorem wyL_in {row : List Nat} {rs : List RoadD} {y : Int} (h : ∀ i ∈ row, i < 8000) : ∀ x ∈ wyL row rs y, In64 x := by
  intro x hx
  unfold wyL at hx
  obtain ⟨i, hi, rfl⟩ := List.mem_map.1 hx
  have := h i (List.mem_filter.1 hi).1
  exact ⟨by omega, by omega⟩
theorem one_ban (w : World) (d : BanD) (h1 : In64 d.fr) (h2 : In64 d.to) (T : TypeId) : BanL (w.alloc (.cells #[.int .i64 d.fr, .int .i64 d.to] T)) (some ⟨w.heap.size, 0, none⟩) [d] [w.heap.size] := by
  have X := Blk.new w [.int .i64 d.fr, .int .i64 d.to] T
  refine .inr ⟨w.heap.size, 0, fun _ => [], rfl, X.lt, by simp, fun i hi => ?_⟩
  obtain rfl : i = 0 := by simp at hi; exact hi
  exact ⟨rfl, h1, h2, X.cell 0 (by simp), X.cell 1 (by simp)⟩
theorem own_num {w : World} {base g n cap : Nat} {l : List Int} (h : OwnI base w (.slice (some ⟨g, 0, none⟩) n cap) l) (hn : l.length = n) {i : Nat} (hi : i < l.length) : w.cell? ⟨g, i, none⟩ = some (.int .i64 l[i]) := by
  unfold OwnI at h
  rw [hn] at h
  rw [h.cellAt i (by omega)]
  unfold intsV
  rw [List.getElem?_map, List.getElem?_eq_getElem hi]; rfl
theorem spl_lt {l : List SpotD} {x : Int} {p : Nat} (h : spl l x = some p) : p < l.length := by
  unfold spl at h
  exact List.mem_range.1 (List.mem_of_find?_eq_some h)

set_option maxRecDepth 100000 in
set_option maxHeartbeats 4000000 in
theorem forbid_any (lo Bb Be M : Nat) (V : Bool → Nat → Value) (a0 : Option Addr) (n0 c0 : Nat) (a1 : Option Addr) (n1 c1 : Nat) (a2 : Option Addr) (k2 c2 : Nat) (g : GraphD) (L0 : List BanD) (b0 b1 : List Nat) (way id next : Int) (w : World) (hT : Tabs lo w (fun t => cond t Bb Be) n0 V (bgF g.roads n1)) (hS : BX w M L0) (h0 : L0.length ≤ 2001) (t0 : SpotL w a0 g.places b0) (t1 : RoadL w a1 g.roads b1) (e0 : g.places.length = n0) (e1 : g.roads.length = n1) (hm0 : n0 ≤ 5000) (hm : n1 ≤ 8000) (hP : spotsP g.places) (hM : M < lo) :
    Calls Try.prog 31 #[.agg #[.slice a0 n0 c0, .slice a1 n1 c1, .slice a2 k2 c2, .slice (some ⟨Bb, 0, none⟩) n0 n0, .slice (some ⟨Be, 0, none⟩) n0 n0, .map (some M)], .int .i64 way, .int .i64 id, .int .i64 next] w
      fun e w' => e = .returned (.tuple #[]) ∧ BX w' M ((spl g.places id).elim L0 fun p => frbB L0 (wyL (bgF g.roads n1 false p) g.roads way) (wyL (bgF g.roads n1 true p) g.roads next)) ∧ w.grownBy w' (some M) := by
  have HP : Hid (spotsP g.places) := hP
  have HE0 : Hid (g.places.length = n0) := e0
  have HE1 : Hid (g.roads.length = n1) := e1
  obtain ⟨W, HW⟩ : ∃ W, Hid (W = w.alloc (.cells #[.slice a0 n0 c0, .slice a1 n1 c1, .slice a2 k2 c2, .slice (some ⟨Bb, 0, none⟩) n0 n0, .slice (some ⟨Be, 0, none⟩) n0 n0, .map (some M)] 59)) := ⟨_, (rfl : w.alloc (.cells #[.slice a0 n0 c0, .slice a1 n1 c1, .slice a2 k2 c2, .slice (some ⟨Bb, 0, none⟩) n0 n0, .slice (some ⟨Be, 0, none⟩) n0 n0, .map (some M)] 59) = _)⟩
  have hBW : Bel w W := by rw [HW.out]; exact bel_alloc (Bel.refl _) _
  have XN : Blk W w.heap.size [.slice a0 n0 c0, .slice a1 n1 c1, .slice a2 k2 c2, .slice (some ⟨Bb, 0, none⟩) n0 n0, .slice (some ⟨Be, 0, none⟩) n0 n0, .map (some M)] := by rw [HW.out]; exact Blk.new w [.slice a0 n0 c0, .slice a1 n1 c1, .slice a2 k2 c2, .slice (some ⟨Bb, 0, none⟩) n0 n0, .slice (some ⟨Be, 0, none⟩) n0 n0, .map (some M)] _
  have x0 : W.cell? ⟨w.heap.size, 0, none⟩ = some (.slice a0 n0 c0) := XN.cell 0 (by simp)
  have x1 : W.cell? ⟨w.heap.size, 1, none⟩ = some (.slice a1 n1 c1) := XN.cell 1 (by simp)
  have x2 : W.cell? ⟨w.heap.size, 2, none⟩ = some (.slice a2 k2 c2) := XN.cell 2 (by simp)
  have xl := XN.lt
  have hMw : M ≠ w.heap.size := by have := hT.sz; omega
  have HC := placeOf_any a0 n0 c0 a1 n1 c1 a2 k2 c2 g.places b0 id W (t0.bel spotE hBW) e0 hm0 hP
  cases hsp : spl g.places id with
  | none =>
    rw [hsp] at HC
    have hSW := hS.bel hBW
    clear hT t0 t1 XN hS hP e0 e1
    go_enter Try.func31, Try.ntmps31
    go_upto_region 1 with fail
    rw [← HW.out]
    go_wp2_with fail
    refine HC.mono ?_
    rintro e w1 ⟨p, rfl, _, _, hb1⟩
    have HB := bel_step hBW hb1
    have hS1 := hSW.bel hb1
    clear x0 x1 x2 hSW
    go_wp2
    ((try simp only [Exit.inBlock, Exit.then]); refine bodyPost_ret (results_none rfl _ _ _) rfl ?_)
    exact ⟨rfl, hS1, grown_of_bel HB _⟩
  | some p =>
    rw [hsp] at HC
    have hpn : p < n0 := by rw [← e0]; exact spl_lt hsp
    have hpI : (p : Int) < (n0 : Int) := by omega
    have hTW := hT.bel hBW
    have hSW := hS.bel hBW
    have t1W := t1.bel roadE hBW
    obtain ⟨into, HI⟩ : ∃ l, Hid (l = wyL (bgF g.roads n1 true p) g.roads next) := ⟨_, (rfl : wyL (bgF g.roads n1 true p) g.roads next = _)⟩
    obtain ⟨from_, HF⟩ : ∃ l, Hid (l = wyL (bgF g.roads n1 false p) g.roads way) := ⟨_, (rfl : wyL (bgF g.roads n1 false p) g.roads way = _)⟩
    obtain ⟨ra, rc, hv⟩ := own_shape (hT.rows true p hpn)
    obtain ⟨qa, qc, hv'⟩ := own_shape (hT.rows false p hpn)
    obtain ⟨rn, Hrn⟩ : ∃ l, Hid ((bgF g.roads n1 true p).length = l) := ⟨_, (rfl : (bgF g.roads n1 true p).length = _)⟩
    obtain ⟨qn, Hqn⟩ : ∃ l, Hid ((bgF g.roads n1 false p).length = l) := ⟨_, (rfl : (bgF g.roads n1 false p).length = _)⟩
    have hcap : into.length ≤ 8000 ∧ from_.length ≤ 8000 := by
      rw [HI.out, HF.out]
      exact ⟨Nat.le_trans (wyL_len _ _ _) (Nat.le_trans (bgF_len _ _ _ _) hm), Nat.le_trans (wyL_len _ _ _) (Nat.le_trans (bgF_len _ _ _ _) hm)⟩
    -- what both regions read
    have hG : ∀ w', Bel W w' → (w'.cell? ⟨w.heap.size, 0, none⟩ = some (.slice a0 n0 c0) ∧ w'.cell? ⟨w.heap.size, 1, none⟩ = some (.slice a1 n1 c1) ∧ w'.cell? ⟨w.heap.size, 2, none⟩ = some (.slice a2 k2 c2) ∧ w'.cell? ⟨w.heap.size, 3, none⟩ = some (.slice (some ⟨Bb, 0, none⟩) n0 n0) ∧ w'.cell? ⟨w.heap.size, 4, none⟩ = some (.slice (some ⟨Be, 0, none⟩) n0 n0) ∧ w'.cell? ⟨w.heap.size, 5, none⟩ = some (.map (some M))) ∧ w'.cell? ⟨Bb, p, none⟩ = some (.slice ra rn rc) ∧ w'.cell? ⟨Be, p, none⟩ = some (.slice qa qn qc) := fun w' h => by
      have X := XN.bel h
      have T := hTW.bel h
      have q1 := T.cell true p hpn
      have q2 := T.cell false p hpn
      rw [hv, Hrn.out] at q1
      rw [hv', Hqn.out] at q2
      exact ⟨⟨X.cell 0 (by simp), X.cell 1 (by simp), X.cell 2 (by simp), X.cell 3 (by simp), X.cell 4 (by simp), X.cell 5 (by simp)⟩, q1, q2⟩
    have cI : ∀ w0, Bel W w0 → Calls Try.prog 56 #[.agg #[.slice a0 n0 c0, .slice a1 n1 c1, .slice a2 k2 c2, .slice (some ⟨Bb, 0, none⟩) n0 n0, .slice (some ⟨Be, 0, none⟩) n0 n0, .map (some M)], .slice ra rn rc, .int .i64 next] w0 fun e w' => ∃ va vc, e = .returned (.slice va into.length vc) ∧ OwnI W.heap.size w' (.slice va into.length vc) into ∧ Bel w0 w' := fun w0 h => by
      have hr := (hTW.bel h).rows true p hpn
      rw [hv, Hrn.out] at hr
      refine (onWay_any lo _ _ _ _ a0 n0 c0 a1 n1 c1 a2 k2 c2 g.roads b1 (bgF g.roads n1 true p) next w0 (by rw [Hrn.out]; exact hr) (t1W.bel roadE h) e1 hm (bgF_len _ _ _ _) (fun i hi => bgF_mem hi)).mono ?_
      rintro e w' ⟨v', rfl, hO, hb⟩
      rw [← HI.out] at hO
      obtain ⟨va, vc, rfl⟩ := own_shape hO
      exact ⟨va, vc, rfl, own_base hO h.out.size, hb⟩
    have cF : ∀ w0, Bel W w0 → Calls Try.prog 56 #[.agg #[.slice a0 n0 c0, .slice a1 n1 c1, .slice a2 k2 c2, .slice (some ⟨Bb, 0, none⟩) n0 n0, .slice (some ⟨Be, 0, none⟩) n0 n0, .map (some M)], .slice qa qn qc, .int .i64 way] w0 fun e w' => ∃ va vc, e = .returned (.slice va from_.length vc) ∧ OwnI W.heap.size w' (.slice va from_.length vc) from_ ∧ Bel w0 w' := fun w0 h => by
      have hr := (hTW.bel h).rows false p hpn
      rw [hv', Hqn.out] at hr
      refine (onWay_any lo _ _ _ _ a0 n0 c0 a1 n1 c1 a2 k2 c2 g.roads b1 (bgF g.roads n1 false p) way w0 (by rw [Hqn.out]; exact hr) (t1W.bel roadE h) e1 hm (bgF_len _ _ _ _) (fun i hi => bgF_mem hi)).mono ?_
      rintro e w' ⟨v', rfl, hO, hb⟩
      rw [← HF.out] at hO
      obtain ⟨va, vc, rfl⟩ := own_shape hO
      exact ⟨va, vc, rfl, own_base hO h.out.size, hb⟩
    have HQ : Hid ((some p).elim L0 (fun p => frbB L0 (wyL (bgF g.roads n1 false p) g.roads way) (wyL (bgF g.roads n1 true p) g.roads next)) = frbB L0 from_ into) := show frbB L0 _ _ = frbB L0 from_ into by rw [HF.out, HI.out]
    have hMW : M < W.heap.size := hSW.lt
    have XN' : Hid (Blk W w.heap.size [.slice a0 n0 c0, .slice a1 n1 c1, .slice a2 k2 c2, .slice (some ⟨Bb, 0, none⟩) n0 n0, .slice (some ⟨Be, 0, none⟩) n0 n0, .map (some M)]) := XN
    clear hT t0 t1 XN hS hP e0 e1 hv hv' hTW t1W
    go_enter Try.func31, Try.ntmps31
    go_upto_region 1 with fail
    rw [← HW.out]
    go_wp2_with fail
    refine HC.mono ?_
    rintro e w1 ⟨p', rfl, hp', _, hb1⟩
    obtain rfl : p' = p := hp' p rfl
    clear hp' x0 x1 x2
    have hG1 : ∀ w', Bel w1 w' → (w'.cell? ⟨w.heap.size, 0, none⟩ = some (.slice a0 n0 c0) ∧ w'.cell? ⟨w.heap.size, 1, none⟩ = some (.slice a1 n1 c1) ∧ w'.cell? ⟨w.heap.size, 2, none⟩ = some (.slice a2 k2 c2) ∧ w'.cell? ⟨w.heap.size, 3, none⟩ = some (.slice (some ⟨Bb, 0, none⟩) n0 n0) ∧ w'.cell? ⟨w.heap.size, 4, none⟩ = some (.slice (some ⟨Be, 0, none⟩) n0 n0) ∧ w'.cell? ⟨w.heap.size, 5, none⟩ = some (.map (some M))) ∧ w'.cell? ⟨Bb, p', none⟩ = some (.slice ra rn rc) ∧ w'.cell? ⟨Be, p', none⟩ = some (.slice qa qn qc) := fun w' h => hG w' (bel_step hb1 h)
    have cI1 : ∀ w0, Bel w1 w0 → Calls Try.prog 56 #[.agg #[.slice a0 n0 c0, .slice a1 n1 c1, .slice a2 k2 c2, .slice (some ⟨Bb, 0, none⟩) n0 n0, .slice (some ⟨Be, 0, none⟩) n0 n0, .map (some M)], .slice ra rn rc, .int .i64 next] w0 fun e w' => ∃ va vc, e = .returned (.slice va into.length vc) ∧ OwnI W.heap.size w' (.slice va into.length vc) into ∧ Bel w0 w' := fun w0 h => cI w0 (bel_step hb1 h)
    have g0 : Bel w1 w1 := Bel.refl _
    go_upto_region 3 with fail
    go_region_held3 (fun w' => Bel w1 w') (with_reducible (repeat (first | assumption | exact g0 | refine Bel.drew ?_ | refine bel_then (by assumption) ?_)))
      (first
        | (go_at_call 56; with_reducible refine (cI1 _ (by assumption)).mono ?_; rintro e w' ⟨va, vc, rfl, hO, hbk⟩))
    have hB2 : Bel w1 w' := by assumption
    have hbW2 := bel_step hb1 hB2
    have hG2 : ∀ w'', Bel w' w'' → (w''.cell? ⟨w.heap.size, 0, none⟩ = some (.slice a0 n0 c0) ∧ w''.cell? ⟨w.heap.size, 1, none⟩ = some (.slice a1 n1 c1) ∧ w''.cell? ⟨w.heap.size, 2, none⟩ = some (.slice a2 k2 c2) ∧ w''.cell? ⟨w.heap.size, 3, none⟩ = some (.slice (some ⟨Bb, 0, none⟩) n0 n0) ∧ w''.cell? ⟨w.heap.size, 4, none⟩ = some (.slice (some ⟨Be, 0, none⟩) n0 n0) ∧ w''.cell? ⟨w.heap.size, 5, none⟩ = some (.map (some M))) ∧ w''.cell? ⟨Bb, p', none⟩ = some (.slice ra rn rc) ∧ w''.cell? ⟨Be, p', none⟩ = some (.slice qa qn qc) := fun w'' h => hG w'' (bel_step hbW2 h)
    have cF1 : ∀ w0, Bel w' w0 → Calls Try.prog 56 #[.agg #[.slice a0 n0 c0, .slice a1 n1 c1, .slice a2 k2 c2, .slice (some ⟨Bb, 0, none⟩) n0 n0, .slice (some ⟨Be, 0, none⟩) n0 n0, .map (some M)], .slice qa qn qc, .int .i64 way] w0 fun e w' => ∃ va vc, e = .returned (.slice va from_.length vc) ∧ OwnI W.heap.size w' (.slice va from_.length vc) from_ ∧ Bel w0 w' := fun w0 h => cF w0 (bel_step hbW2 h)
    have g2 : Bel w' w' := Bel.refl _
    obtain ⟨mi, Hmi⟩ : ∃ m, Hid (into.length = m) := ⟨_, (rfl : into.length = _)⟩
    obtain ⟨mf, Hmf⟩ : ∃ m, Hid (from_.length = m) := ⟨_, (rfl : from_.length = _)⟩
    rw [Hmi.out] at hO ⊢
    rw [Hmf.out] at cF1
    clear hG1 cI1 g0 hbk hG cI cF
    go_wp2
    go_region_held3 (fun w'' => Bel w' w'') (with_reducible (repeat (first | assumption | exact g2 | refine Bel.drew ?_ | refine bel_then (by assumption) ?_)))
      (first
        | (go_at_call 56; with_reducible refine (cF1 _ (by assumption)).mono ?_; rintro e w2 ⟨vb, vd, rfl, hO2, hbk2⟩))
    have hB3 : Bel w' w2 := by assumption
    have hbW3 := bel_step hbW2 hB3
    have hO1 := World.ownsRow.kept hO (bel_none hB3) (Classical.em _)
    have hS2 := hSW.bel hbW3
    have X2 := XN'.out.bel hbW3
    have HgW : Hid (w.grownBy w2 (some M)) := grown_of_bel (bel_step hBW hbW3) _
    have hcap1 : mi ≤ 8000 ∧ mf ≤ 8000 := by rw [← Hmi.out, ← Hmf.out]; exact hcap
    have HII : Hid (∀ x ∈ into, In64 x) := show ∀ x ∈ into, In64 x by rw [HI.out]; exact wyL_in fun i hi => Nat.lt_of_lt_of_le (bgF_mem hi) hm
    have HIF : Hid (∀ x ∈ from_, In64 x) := show ∀ x ∈ from_, In64 x by rw [HF.out]; exact wyL_in fun i hi => Nat.lt_of_lt_of_le (bgF_mem hi) hm
    have hMb : ∀ v : Value, v.ownBlock = some M → W.heap.size ≤ M → False := fun _ _ h => by omega
    clear hG2 cF1 g2 hbk2 hO hSW XN' hB2 hcap HC
    go_wp2
    go_loopw [12, 14, 41] (fun _ _ i wr => ∃ k : Nat, k ≤ mf ∧ i = .int .i64 k ∧ BX wr M (frbB L0 (from_.take k) into) ∧ (frbB L0 (from_.take k) into).length ≤ 2001 ∧ w2.grownBy wr (some M)) (fun _ _ i _ => mf - (intOf i).toNat)
    case atStart => exact ⟨0, Nat.zero_le _, rfl, hS2, h0, World.grownBy.refl _ _⟩
    case round =>
      obtain ⟨k, hk, rfl, hSk, hLk, hgr⟩ := hrel
      by_cases hlt : k < mf
      · have hkl : k < from_.length := by rw [Hmf.out]; exact hlt
        obtain ⟨gf, cf, hvb⟩ := own_some hO2 (by rw [Hmf.out]; omega)
        have hvb : Value.slice vb mf vd = .slice (some ⟨gf, 0, none⟩) mf cf := by rw [Hmf.out] at hvb; exact hvb
        obtain ⟨rfl, rfl⟩ : vb = some ⟨gf, 0, none⟩ ∧ vd = cf := by injection hvb with h1 _ h2; exact ⟨h1, h2⟩
        have hOf := World.ownsRow.kept hO2 hgr (.inr fun e => by have := (World.ownsRow.lt hO2 M e).1; omega)
        have hgf := (World.ownsRow.lt hOf gf rfl).2
        have hcf := own_num hOf Hmf.out hkl
        obtain ⟨f, Hf⟩ : ∃ f, Hid (f = from_[k]) := ⟨_, (rfl : from_[k] = _)⟩
        rw [← Hf.out] at hcf
        have hfi : In64 f := by rw [Hf.out]; exact HIF.out _ (List.getElem_mem hkl)
        obtain ⟨A, HA⟩ : ∃ A, Hid (A = frbB L0 (from_.take k) into) := ⟨_, (rfl : frbB L0 (from_.take k) into = _)⟩
        rw [← HA.out] at hSk hLk
        have hkI : (k : Int) < (mf : Int) := by omega
        clear hvb hOf
        go_wp2
        go_loopw [14, 47] (fun _ i wq => ∃ j : Nat, j ≤ mi ∧ i = .int .i64 j ∧ BX wq M (onto A f (into.take j)) ∧ (onto A f (into.take j)).length ≤ 2001 ∧ w2.grownBy wq (some M)) (fun _ i _ => mi - (intOf i).toNat)
        case atStart => exact ⟨0, Nat.zero_le _, rfl, hSk, hLk, hgr⟩
        case round =>
          obtain ⟨j, hj, rfl, hSj, hLj, hgj⟩ := hrel
          by_cases hltj : j < mi
          · have hjl : j < into.length := by rw [Hmi.out]; exact hltj
            obtain ⟨gi, ci, hva⟩ := own_some hO1 (by rw [Hmi.out]; omega)
            have hva : Value.slice va mi vc = .slice (some ⟨gi, 0, none⟩) mi ci := by rw [Hmi.out] at hva; exact hva
            obtain ⟨rfl, rfl⟩ : va = some ⟨gi, 0, none⟩ ∧ vc = ci := by injection hva with h1 _ h2; exact ⟨h1, h2⟩
            have hOi := World.ownsRow.kept hO1 hgj (.inr fun e => by have := (World.ownsRow.lt hO1 M e).1; omega)
            have hgi := (World.ownsRow.lt hOi gi rfl).2
            have hci := own_num hOi Hmi.out hjl
            obtain ⟨t, Ht⟩ : ∃ t, Hid (t = into[j]) := ⟨_, (rfl : into[j] = _)⟩
            rw [← Ht.out] at hci
            have hti : In64 t := by rw [Ht.out]; exact HII.out _ (List.getElem_mem hjl)
            have Xj := X2.grown hgj (fun e => hMw e.symm)
            have y5 : wr.cell? ⟨w.heap.size, 5, none⟩ = some (.map (some M)) := Xj.cell 5 (by simp)
            have yl := Xj.lt
            have hjI : (j : Int) < (mi : Int) := by omega
            obtain ⟨B, HB⟩ : ∃ B, Hid (B = onto A f (into.take j)) := ⟨_, (rfl : onto A f (into.take j) = _)⟩
            have HN : Hid (onto A f (into.take (j + 1)) = capB B ⟨f, t⟩) := show onto A f (into.take (j + 1)) = capB B ⟨f, t⟩ by rw [onto_step hjl, HB.out, Ht.out]
            rw [← HB.out] at hSj hLj
            have hlen := hSj.lens
            obtain ⟨ln, Hln⟩ : ∃ ln, Hid (B.length = ln) := ⟨_, (rfl : B.length = _)⟩
            rw [Hln.out] at hlen
            clear hva hOi Xj
            by_cases hc : (ln : Int) ≤ 2000
            · have hc' : ¬ (2000 : Int) < (ln : Int) := by omega
              have hbV : Bel wr (wr.alloc (.cells #[.int .i64 f, .int .i64 t] 75)) := bel_alloc (Bel.refl _) _
              have cP := putX_any M B (some ⟨wr.heap.size, 0, none⟩) 1 1 [⟨f, t⟩] [wr.heap.size] (wr.alloc (.cells #[.int .i64 f, .int .i64 t] 75)) (hSj.bel hbV) hLj (one_ban wr ⟨f, t⟩ hfi hti _) rfl (by omega) (by have := hSj.lt; simp; omega)
              have HgV := grown_step hgj hbV
              clear hSj hLj
              go_wp2_with fail
              refine cP.mono ?_
              rintro e w3 ⟨rfl, hS3, hL3, hg3⟩
              have HS3 : Hid (BX w3 M (onto A f (into.take (j + 1)))) := by rw [HN.out]; exact hS3
              have HL3 : Hid ((onto A f (into.take (j + 1))).length ≤ 2001) := by rw [HN.out]; exact hL3
              have hG3 := HgV.trans hg3
              clear hS3 hL3 cP
              go_wp2
              go_roundw
              case rel => exact ⟨j + 1, by omega, by go_num, HS3.out, HL3.out, hG3⟩
              case measure => simp [intOf]; omega
            · have hBl : ¬ B.length ≤ 2000 := by rw [Hln.out]; omega
              have HR : Hid (frbB L0 from_ into = B) := show frbB L0 from_ into = B by
                rw [frbB_end (j := j) hkl (by rw [← HA.out, ← Hf.out, ← HB.out]; exact hBl), ← HA.out, ← Hf.out, ← HB.out]
              have HSB : Hid (BX wr M B) := hSj
              clear hSj hLj hBl
              go_wp2
              ((try simp only [Exit.inBlock, Exit.then]); refine bodyPost_ret (results_none rfl _ _ _) rfl ?_)
              exact ⟨rfl, by have h := HSB.out; rw [← HR.out, ← HQ.out] at h; exact h, HgW.out.trans hgj⟩
          · have ej : into.take j = into := List.take_of_length_le (by rw [Hmi.out]; omega)
            rw [ej] at hSj hLj
            have HE : Hid (onto A f into = frbB L0 (from_.take (k + 1)) into) := show onto A f into = frbB L0 (from_.take (k + 1)) into by rw [frbB_step hkl, ← HA.out, ← Hf.out]
            rw [HE.out] at hSj hLj
            have HSj : Hid (BX wr M (frbB L0 (from_.take (k + 1)) into)) := hSj
            have HLj : Hid ((frbB L0 (from_.take (k + 1)) into).length ≤ 2001) := hLj
            clear hSj hLj
            go_wp2
            go_roundw
            case rel => exact ⟨k + 1, by omega, by go_num, HSj.out, HLj.out, hgj⟩
            case measure => simp [intOf]; omega
      · have ek : from_.take k = from_ := List.take_of_length_le (by rw [Hmf.out]; omega)
        rw [ek] at hSk
        have HSk : Hid (BX wr M (frbB L0 from_ into)) := hSk
        clear hSk hLk
        go_wp2
        go_end0
        exact ⟨rfl, by rw [HQ.out]; exact HSk.out, HgW.out.trans hgr⟩
end Go.Proofs.Ytiagdabikbjbiaa
