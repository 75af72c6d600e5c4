/-
  append at a step of a region that draws: of any number, also of none; of a list of plain elements onto an empty row.
  What a label counts in the model; a number put into an ascending list: contracts.
  Labels that are shown, in the model: contract.
-/
import Derived.Test.YtpbpnkklnbmkeaaFlat
import Derived.Deep.AppendLies
import Derived.Test.YtpbpnkklnbmkeaaXA
import Derived.Test.YtpbpnkklnbmkeaaXB
import Derived.Test.YtpbpnkklnbmkeaaHasC
import Derived.Test.YtpbpnkklnbmkeaaOwnK
import Derived.Test.YtpbpnkklnbmkeaaTk
import Derived.Test.YtpbpnkklnbmkeaaLblK
import Derived.Test.YtpbpnkklnbmkeaaSpcM
import Derived.Test.YtpbpnkklnbmkeaaRowH
import Derived.Deep.QuietTactic
import Derived.Deep.CutBlock
import Derived.Deep.DeepCutAuto
import Derived.Deep.RegionHeld3
namespace Go.Proofs.Ytpbpnkklnbmkeaa
open Go.RowKit Go.Maps

/-- append of any number, also of none, at a step of a region that draws. -/
theorem step_app {P : Program} (w : World) {ops : Array Oper} {o : Oper} {a : Act} {K : Act → World → Prop} {Q : Exit → Act → World → Prop} {E : Prop} (hgd : o.guard = none) (s x : Operand) (t : TypeId)
    (ho : o.op = .call { callee := .builtin .append, args := #[s, x], argTypes := #[t, t] })
    (base : Nat) (e : TypeId) (i : TypeInfo) (z : Value) (size bytes : Nat) (ht : P.underlying t = some (.slice e)) (hi : P.info? e = some i) (hz : i.zero = some z)
    (hsize : i.size = size) (hby : i.bytes = bytes) (hzs : z.cells.size = size) (hsz : 0 < size)
    (v : Value) (n : Nat) (xs : List Value) (hs : a.eval s = v) (hown : w.ownsRow base e size v n xs)
    (ad : Addr) (m c : Nat) (news : List Value) (hx : a.eval x = .slice (some ad) m c) (hl : news.length = m * size) (hnews : ∀ j u, news[j]? = some u → w.cell? (ad.add j) = some u) (h1 : ∀ u ∈ news, u.oneCell' = true)
    (h63 : n + m ≤ maxLen) (hbytes : (n + m) * bytes ≤ 140737488355328) (hbase : base ≤ w.heap.size)
    (h : ∀ v' w', w'.ownsRow base e size v' (n + m) (xs ++ news) → w.grownBy w' v.ownBlock → K (a.put o.dst v') w') :
    if Region.wanted o (yielded ops a.tmps) = true then Oper.wp P o a w K Q else E := by
  have hw : Region.wanted o (yielded ops a.tmps) = true := by simp [Region.wanted, hgd]
  rw [if_pos hw]
  obtain ⟨v', w', hr, h2, h3, _, _⟩ := run_append_own_at (P := P) w base t o.type e i z size bytes ht hi hz hsize hby hzs hsz v n xs hown ad m c news hl hnews h1 h63 hbytes hbase
  unfold Oper.wp execOp
  simp only [ho, resolve, invoke, builtin, Sem.run_bind, Sem.run_pure, Result.andThen_ok, List.map_toArray, List.map_cons, List.map_nil, hs, hx, hr]
  exact h v' w' h2 h3

theorem step_app0 {P : Program} (w : World) {ops : Array Oper} {o : Oper} {a : Act} {K : Act → World → Prop} {Q : Exit → Act → World → Prop} {E : Prop} (hgd : o.guard = none) (s x : Operand) (t : TypeId)
    (ho : o.op = .call { callee := .builtin .append, args := #[s, x], argTypes := #[t, t] })
    (base : Nat) (e : TypeId) (i : TypeInfo) (size : Nat) (ht : P.underlying t = some (.slice e)) (hi : P.info? e = some i)
    (v : Value) (n : Nat) (xs : List Value) (hs : a.eval s = v) (hown : w.ownsRow base e size v n xs) (b : Option Addr) (c : Nat) (hx : a.eval x = .slice b 0 c)
    (h : K (a.put o.dst v) w) : if Region.wanted o (yielded ops a.tmps) = true then Oper.wp P o a w K Q else E := by
  have hw : Region.wanted o (yielded ops a.tmps) = true := by simp [Region.wanted, hgd]
  rw [if_pos hw]
  have hrun := run_append_zero (P := P) (w := w) base t o.type e i size ht hi v n xs hown b c
  unfold Oper.wp execOp
  simp only [ho, resolve, invoke, builtin, Sem.run_bind, Sem.run_pure, Result.andThen_ok, List.map_toArray, List.map_cons, List.map_nil, hs, hx, hrun]
  exact h

theorem step_flat {α : Type} {q : Nat} {E : Elem α} {G : α → Prop} {cs : α → List Value} (hF : Flat q E G cs) (hq : 0 < q) {P : Program} (w : World) {ops : Array Oper} {o : Oper} {a : Act} {K : Act → World → Prop} {Q : Exit → Act → World → Prop} {Ex : Prop} (hgd : o.guard = none) (s x : Operand) (t : TypeId)
    (ho : o.op = .call { callee := .builtin .append, args := #[s, x], argTypes := #[t, t] })
    (base : Nat) (e : TypeId) (i : TypeInfo) (z : Value) (bytes : Nat) (ht : P.underlying t = some (.slice e)) (hi : P.info? e = some i) (hz : i.zero = some z) (hsize : i.size = q) (hby : i.bytes = bytes) (hzs : z.cells.size = q)
    (v : Value) (hs : a.eval s = v) (hown : w.ownsRow base e q v 0 []) (ad : Option Addr) (n c : Nat) (l : List α) (bs : List Nat) (hx : a.eval x = .slice ad n c) (hT : Sl q E w ad l bs) (hn : l.length = n) (hm : n ≤ 1048576) (hb64 : bytes ≤ 64) (hbase : base ≤ w.heap.size)
    (h : ∀ v' w', w'.ownsRow base e q v' l.length (recs (csL q cs l) l.length) → w.grownBy w' v.ownBlock → K (a.put o.dst v') w') :
    if Region.wanted o (yielded ops a.tmps) = true then Oper.wp P o a w K Q else Ex := by
  subst hn
  by_cases h0 : l.length = 0
  · obtain rfl : l = [] := List.length_eq_zero_iff.1 h0
    exact step_app0 w hgd s x t ho base e i q ht hi v 0 [] hs hown ad c hx (h v w hown (World.grownBy.refl _ _))
  · obtain ⟨b, off, f, rfl, hb, hxx⟩ := hT.out (k := 0) (by omega)
    refine step_app w hgd s x t ho base e i z q bytes ht hi hz hsize hby hzs hq v 0 [] hs hown ⟨b, off, none⟩ l.length c (recs (csL q cs l) l.length) hx (recs_len (csL_len hF l) _) (hF.news hq hxx) (hF.ones l) (by unfold maxLen; omega) (by
      rw [Nat.zero_add]
      exact Nat.le_trans (Nat.mul_le_mul hm hb64) (by decide)) hbase ?_
    intro v' w' hown' hgrow
    rw [Nat.zero_add, List.nil_append] at hown'
    exact h v' w' hown' hgrow
/-- Rows of different types lie in different blocks. -/
theorem own_apart {w : World} {lo lo' : Nat} {e e' : TypeId} {q q' n n' : Nat} {v v' : Value} {xs xs' : List Value} (h : w.ownsRow lo e q v n xs) (h' : w.ownsRow lo' e' q' v' n' xs') (hne : e ≠ e') {g : Nat} (hv : v.ownBlock = some g) : v'.ownBlock ≠ some g := by
  intro hv'
  rcases h.2 with ⟨rfl, _⟩ | ⟨g1, cap1, cur1, rfl, _, hb1, _⟩
  · cases hv
  rcases h'.2 with ⟨rfl, _⟩ | ⟨g2, cap2, cur2, rfl, _, hb2, _⟩
  · cases hv'
  have e1 : g1 = g := by simpa [Value.ownBlock] using hv
  have e2 : g2 = g := by simpa [Value.ownBlock] using hv'
  subst e1 e2
  rw [hb1] at hb2
  injection hb2 with hb2
  injection hb2 with _ hb2
  exact hne hb2
theorem own_keepO {w w' : World} {lo lo' : Nat} {e e' : TypeId} {q q' n n' : Nat} {v v' : Value} {xs xs' : List Value} (h : w.ownsRow lo e q v n xs) (h' : w.ownsRow lo' e' q' v' n' xs') (hne : e ≠ e') (hg : w.grownBy w' v'.ownBlock) : w'.ownsRow lo e q v n xs := by
  cases hv : v.ownBlock with
  | none => exact h.kept hg (.inl hv)
  | some k => exact h.kept hg (.inr (by rw [hv]; exact fun e => own_apart h h' hne hv e.symm))
end Go.Proofs.Ytpbpnkklnbmkeaa

namespace Go.Proofs.Ytpbpnkklnbmkeaa
open Go.RowKit Go.Maps

/-- append of any number of numbers, also of none, to a row of the call's own, at a step of a region that draws. -/
theorem step_appI {P : Program} (w : World) {ops : Array Oper} {o : Oper} {a : Act} {K : Act → World → Prop} {Q : Exit → Act → World → Prop} {Ex : Prop} (hgd : o.guard = none) (s x : Operand) (t : TypeId)
    (ho : o.op = .call { callee := .builtin .append, args := #[s, x], argTypes := #[t, t] })
    (base : Nat) (e : TypeId) (i : TypeInfo) (ht : P.underlying t = some (.slice e)) (hi : P.info? e = some i) (hz : i.zero = some (.int .i64 0)) (hsize : i.size = 1) (hby : i.bytes = 8)
    (v : Value) (l1 : List Int) (hs : a.eval s = v) (hown : w.ownsRow base e 1 v l1.length (intsV l1)) (ad : Option Addr) (m c : Nat) (l2 : List Int) (bs : List Nat) (hx : a.eval x = .slice ad m c) (hT : Ints w ad l2 bs) (hl2 : l2.length = m) (hr : l1.length + m ≤ 1048576) (hbase : base ≤ w.heap.size)
    (h : ∀ v' w', w'.ownsRow base e 1 v' (l1 ++ l2).length (intsV (l1 ++ l2)) → w.grownBy w' v.ownBlock → K (a.put o.dst v') w') :
    if Region.wanted o (yielded ops a.tmps) = true then Oper.wp P o a w K Q else Ex := by
  subst hl2
  by_cases h0 : l2.length = 0
  · obtain rfl : l2 = [] := List.length_eq_zero_iff.1 h0
    exact step_app0 w hgd s x t ho base e i 1 ht hi v l1.length (intsV l1) hs hown ad c hx (h v w (by rw [List.append_nil]; exact hown) (World.grownBy.refl _ _))
  · obtain ⟨b, off, f, rfl, hb, hxx⟩ := hT.out (k := 0) (by omega)
    refine step_app w hgd s x t ho base e i (.int .i64 0) 1 8 ht hi hz hsize hby rfl (by decide) v l1.length (intsV l1) hs hown ⟨b, off, none⟩ l2.length c (intsV l2) hx (by rw [intsV_len, Nat.mul_one]) (fun j u hu => ?_) (fun u hu => ?_) (by unfold maxLen; omega) (by omega) hbase ?_
    · rw [addr_add]
      unfold intsV at hu
      rw [List.getElem?_map] at hu
      obtain ⟨y, hy, rfl⟩ := Option.map_eq_some_iff.1 hu
      obtain ⟨hj, rfl⟩ := List.getElem?_eq_some_iff.1 hy
      have := (hxx j hj).2.2
      rwa [Nat.mul_one] at this
    · obtain ⟨y, _, rfl⟩ := List.mem_map.1 hu
      rfl
    · intro v' w' hown' hgrow
      refine h v' w' ?_ hgrow
      rw [List.length_append]
      have e : intsV (l1 ++ l2) = intsV l1 ++ intsV l2 := List.map_append
      rw [e]
      exact hown'

set_option maxRecDepth 100000 in
set_option maxHeartbeats 1000000 in
theorem l8Rank_any (d : LblD) (ai : Option Addr) (ni ci : Nat) (bf : List Int) (bi : List Nat) (w : World) (hI : Ints w ai bf bi) (hni : bf.length = ni) (hmi : ni ≤ 1048576) (hr : 0 ≤ d.rk ∧ d.rk ≤ 1000) :
    Calls Try.prog 85 #[lbv d, .slice ai ni ci] w fun e w' => e = .returned (.int .i64 (rkB bf d)) ∧ Bel w w' := by
  obtain ⟨W, HW⟩ : ∃ W, Hid (W = w.alloc (.cells #[.int .i64 d.id, .int .i64 d.x, .int .i64 d.y, .int .i64 d.wd, .int .i64 d.ht, .int .i64 d.rk] 33)) := ⟨_, (rfl : w.alloc (.cells #[.int .i64 d.id, .int .i64 d.x, .int .i64 d.y, .int .i64 d.wd, .int .i64 d.ht, .int .i64 d.rk] 33) = _)⟩
  have hG : Bel w W := by rw [HW.out]; exact bel_alloc (Bel.refl w) _
  have X : Blk W w.heap.size [.int .i64 d.id, .int .i64 d.x, .int .i64 d.y, .int .i64 d.wd, .int .i64 d.ht, .int .i64 d.rk] := by rw [HW.out]; exact Blk.new w [.int .i64 d.id, .int .i64 d.x, .int .i64 d.y, .int .i64 d.wd, .int .i64 d.ht, .int .i64 d.rk] _
  have hIW := hI.bel intE hG
  have x0 : W.cell? ⟨w.heap.size, 0, none⟩ = some (.int .i64 d.id) := X.cell 0 (by simp)
  obtain ⟨r, hd1⟩ : ∃ r : Int, Hid (r = d.rk) := ⟨_, (rfl : d.rk = d.rk)⟩
  have x5 : W.cell? ⟨w.heap.size, 5, none⟩ = some (.int .i64 r) := by rw [hd1.out]; exact X.cell 5 (by simp)
  have hr2 : 0 ≤ r ∧ r ≤ 1000 := by rw [hd1.out]; exact hr
  have xl := X.lt
  clear X hI hr
  go_enter Try.func85, Try.ntmps85
  go_upto_region 1 with fail
  rw [← HW.out]
  go_wp2_with fail
  refine (l2HasId_any ai ni ci bf bi d.id _ hIW hni hmi).mono ?_
  rintro e w1 ⟨rfl, rfl⟩
  by_cases hm : d.id ∈ bf
  · have HR : Hid (r + 50 = rkB bf d) := (by unfold rkB; rw [if_pos hm, hd1.out] : r + 50 = rkB bf d)
    rw [decide_eq_true hm]
    go_wp2
    go_ret
    exact ⟨ret_num HR.out, hG⟩
  · have HR : Hid (r = rkB bf d) := (by unfold rkB; rw [if_neg hm, hd1.out] : r = rkB bf d)
    rw [decide_eq_false hm]
    go_wp2
    go_ret
    exact ⟨ret_num HR.out, hG⟩

/-- A number put behind all that are less. -/
theorem ins_asc {l : List Int} {p : Nat} {x : Int} (hs : l.Pairwise (· < ·)) (hp : p ≤ l.length) (h1 : ∀ j (h : j < l.length), j < p → l[j] < x) (h2 : ∀ h : p < l.length, ¬ l[p] < x) (hx : x ∉ l) : (l.take p ++ x :: l.drop p).Pairwise (· < ·) := by
  have hs' := List.pairwise_iff_getElem.1 hs
  rw [List.pairwise_append, List.pairwise_cons]
  have ht : ∀ y ∈ l.take p, y < x := fun y hy => by
    obtain ⟨j, hj, rfl⟩ := List.getElem_of_mem hy
    rw [List.length_take] at hj
    rw [List.getElem_take]; exact h1 j (by omega) (by omega)
  have hd : ∀ y ∈ l.drop p, x < y := fun y hy => by
    obtain ⟨j, hj, rfl⟩ := List.getElem_of_mem hy
    rw [List.length_drop] at hj
    rw [List.getElem_drop]
    have hpl : p < l.length := by omega
    have a1 : x < l[p] := by
      have := h2 hpl
      have : l[p] ≠ x := fun e => hx (e ▸ List.getElem_mem hpl)
      omega
    rcases Nat.eq_zero_or_pos j with rfl | hj0
    · exact a1
    · have := hs' p (p + j) hpl (by omega) (by omega)
      omega
  refine ⟨hs.sublist (List.take_sublist _ _), ⟨fun y hy => hd y hy, hs.sublist (List.drop_sublist _ _)⟩, fun y hy z hz => ?_⟩
  rcases List.mem_cons.1 hz with rfl | hz
  · exact ht y hy
  · have := ht y hy; have := hd z hz; omega
theorem ins_perm {α : Type} (l : List α) (p : Nat) (x : α) : (l.take p ++ x :: l.drop p).Perm (l ++ [x]) := by
  have h1 : (l.take p ++ x :: l.drop p).Perm (x :: (l.take p ++ l.drop p)) := List.perm_middle
  rw [List.take_append_drop] at h1
  exact h1.trans (List.perm_append_singleton x l).symm
/-- What comes of it: a row of its own with one number more, ascending. -/
def InsOut (w : World) (l : List Int) (x : Int) (e : Ending) (w' : World) : Prop :=
  ∃ v' l', e = .returned v' ∧ OwnI w.heap.size w' v' l' ∧ l'.Perm (l ++ [x]) ∧ l'.Pairwise (· < ·) ∧ Bel w w'
set_option maxRecDepth 100000 in
set_option maxHeartbeats 4000000 in
theorem l8Add_any (a : Option Addr) (n c : Nat) (l : List Int) (bs : List Nat) (x : Int) (w : World) (hT : Ints w a l bs) (hn : l.length = n) (hm : n ≤ 1000) (hc : n ≤ c) (hsrt : l.Pairwise (· < ·)) (hx : x ∉ l) (hix : In64 x) (ha : ∃ b off, a = some ⟨b, off, none⟩) :
    Calls Try.prog 87 #[.slice a n c, .int .i64 x] w fun e w' => InsOut w l x e w' := by
  obtain ⟨b, off, rfl⟩ := ha
  obtain ⟨ie, hie, hze, hse, hbe⟩ := info_parts infoI
  have Hn : Hid (l.length = n) := hn
  have Hs : Hid (l.Pairwise (· < ·)) := hsrt
  have Hx : Hid (x ∉ l) := hx
  have HIx : Hid (In64 x) := hix
  have HT0 : Hid (Ints w (some ⟨b, off, none⟩) l bs) := hT
  clear hsrt hx hix hT
  go_enter Try.func87, Try.ntmps87
  go_wp2
  go_loopw [5] (fun i wr => ∃ p : Nat, p ≤ n ∧ i = .int .i64 p ∧ Hid (∀ j (h : j < l.length), j < p → l[j] < x) ∧ wr = w) (fun i _ => n - (intOf i).toNat)
  case atStart => exact ⟨0, Nat.zero_le _, rfl, (fun j _ h => absurd h (Nat.not_lt_zero _) : ∀ j (h : j < l.length), j < 0 → l[j] < x), rfl⟩
  case round =>
    obtain ⟨p, hp, rfl, HB, rfl⟩ := hrel
    by_cases hlt : p < n
    · have hkl : p < l.length := by rw [Hn.out]; exact hlt
      have hltI : (p : Int) < (n : Int) := by omega
      obtain ⟨b', off', f, e', hb, hxx⟩ := HT0.out.out hkl
      injection e' with e'
      injection e' with e1 e2
      subst e1; subst e2
      have c0 := (hxx p hkl).2.2
      rw [Nat.mul_one] at c0
      obtain ⟨y, Hy⟩ : ∃ y, Hid (y = l[p]) := ⟨_, (rfl : l[p] = _)⟩
      rw [← Hy.out] at c0
      clear hxx
      by_cases hyx : y < x
      · have HB1 : Hid (∀ j (h : j < l.length), j < p + 1 → l[j] < x) := fun j h hj => by
          by_cases e : j = p
          · subst e; rw [← Hy.out]; exact hyx
          · exact HB.out j h (by omega)
        go_wp2
        go_roundw
        case rel => exact ⟨p + 1, by omega, by go_num, HB1, trivial⟩
        case measure => simp [intOf]; omega
      · have hyne : y ≠ x := fun e => Hx.out (by rw [← e, Hy.out]; exact List.getElem_mem hkl)
        have hq : (y == x) = false := by simpa using hyne
        have HOut : Hid (∀ v3 wC, wC.ownsRow wr.heap.size 2 1 v3 ((([] ++ l.take p) ++ [x]) ++ l.drop p).length (intsV ((([] ++ l.take p) ++ [x]) ++ l.drop p)) → Bel wr wC → InsOut wr l x (.returned v3) wC) := fun v3 wC h hb => by
          have e : (([] ++ l.take p) ++ [x]) ++ l.drop p = l.take p ++ x :: l.drop p := by simp
          rw [e] at h
          exact ⟨v3, _, rfl, h, ins_perm l p x, ins_asc Hs.out (Nat.le_of_lt hkl) HB.out (fun _ => by rw [← Hy.out]; exact hyx) Hx.out, hb⟩
        obtain ⟨bs1, hbs1⟩ := ints_take HT0.out p
        obtain ⟨bs2, hbs2⟩ := ints_drop HT0.out p
        have HT : Hid ((∀ w', Bel wr w' → Ints w' (some ⟨b, off, none⟩) (l.take p) bs1) ∧ (∀ w', Bel wr w' → Ints w' (some ⟨b, off + p, none⟩) (l.drop p) bs2)) := ⟨fun w' h => hbs1.bel intE h, fun w' h => hbs2.bel intE h⟩
        have hpc : (p : Int) ≤ (c : Int) := by omega
        have hpn : (p : Int) ≤ (n : Int) := by omega
        clear hbs1 hbs2
        go_upto_region 6 with fail
        refine wp_region_noPanic ?_
        refine wp_region_held_drew (S := (fun w' => Bel wr w')) (by kernel_rfl) (Bel.refl _).drew (fun hHeld => ?_)
        generalize wr.drew = wD at hHeld ⊢
        refine tk 1 hHeld ?_; refine tk 2 hHeld ?_; refine tk 3 hHeld ?_; refine tk 5 hHeld ?_; refine tk 8 hHeld ?_; refine tk 9 hHeld ?_
        refine tkv 10 (.slice (some ⟨b, off + p, none⟩) (n - p) (c - p)) hHeld ?_ (hy := by (intro w hSw; (try dsimp only at hSw); go_simp; first | done | (intro h; omega)))
        have HsD : Hid (wr.heap.size ≤ wD.heap.size) := hHeld.out.size
        refine rd2 0 6 (fun K hK => ?_) (fun K hK => ?_)
        · go_simp
          refine hK.out _ _ (bel_alloc hHeld _) (fun hHeld' => ?_)
          clear hK K hHeld
          have hHeld := hHeld'
          clear hHeld'
          try simp only [Act.put, List.setIfInBounds_toArray, List.set_cons_zero, List.set_cons_succ]
          have hown0 : (wD.alloc (.cells #[] 2)).ownsRow wr.heap.size 2 1 (.slice (some ⟨wD.heap.size, 0, none⟩) 0 0) ([] : List Int).length (intsV []) := World.ownsRow_made (e := 2) (size := 1) (base := wr.heap.size) wD #[] 0 HsD.out (by unfold maxLen; omega) (by rfl)
          refine rd2 4 6 (fun K hK => ?_) (fun K hK => ?_)
          · refine step_appI _ rfl _ _ _ rfl wr.heap.size 2 ie Try.underlying25 hie hze hse hbe (.slice (some ⟨wD.heap.size, 0, none⟩) 0 0) ([]) (by rfl) hown0 (some ⟨b, off, none⟩) (p) _ (l.take p) _ (by rfl) (HT.out.1 _ hHeld) (by rw [List.length_take]; omega) (by simp; omega) hHeld.out.size ?_
            intro v1 wA hv1 hv1g
            refine hK.out _ _ (bel_grow hHeld hv1g (fun k e => by have := World.ownsRow.lt hown0 k e; omega)) (fun hHeld' => ?_)
            clear hK K hHeld
            have hHeld := hHeld'
            clear hHeld'
            try simp only [Act.put, List.setIfInBounds_toArray, List.set_cons_zero, List.set_cons_succ]
            refine rd1 6 (fun K hK => ?_)
            go_simp
            refine hK.out _ _ (bel_alloc hHeld _) (fun hHeld' => ?_)
            clear hK K hHeld
            have hHeld := hHeld'
            clear hHeld'
            try simp only [Act.put, List.setIfInBounds_toArray, List.set_cons_zero, List.set_cons_succ]
            have hv1b := World.ownsRow.alloc hv1 (.cells #[.int .i64 x] 2)
            have hcx := (Blk.new wA [.int .i64 x] 2).cell 0 (by simp)
            refine rd1 7 (fun K hK => ?_)
            refine step_appI _ rfl _ _ _ rfl wr.heap.size 2 ie Try.underlying25 hie hze hse hbe (v1) ([] ++ l.take p) (by rfl) hv1b (some ⟨wA.heap.size, 0, none⟩) (1) _ ([x]) _ (by rfl) (ints_lit1 hcx HIx.out) (rfl) (by simp; omega) hHeld.out.size ?_
            intro v2 wB hv2 hv2g
            refine hK.out _ _ (bel_grow hHeld hv2g (fun k e => by have := World.ownsRow.lt hv1b k e; omega)) (fun hHeld' => ?_)
            clear hK K hHeld
            have hHeld := hHeld'
            clear hHeld'
            try simp only [Act.put, List.setIfInBounds_toArray, List.set_cons_zero, List.set_cons_succ]
            clear hcx
            refine rd1 11 (fun K hK => ?_)
            refine step_appI _ rfl _ _ _ rfl wr.heap.size 2 ie Try.underlying25 hie hze hse hbe (v2) (([] ++ l.take p) ++ [x]) (by rfl) hv2 ((some ⟨b, off + p, none⟩)) (n - p) _ (l.drop p) _ (by rfl) (HT.out.2 _ hHeld) (by rw [List.length_drop]; omega) (by simp; omega) hHeld.out.size ?_
            intro v3 wC hv3 hv3g
            refine hK.out _ _ (bel_grow hHeld hv3g (fun k e => by have := World.ownsRow.lt hv2 k e; omega)) (fun hHeld' => ?_)
            clear hK K hHeld
            have hHeld := hHeld'
            clear hHeld'
            try simp only [Act.put, List.setIfInBounds_toArray, List.set_cons_zero, List.set_cons_succ]
            refine rd1 12 (fun K hK => ?_)
            go_simp
            refine hK.out _ _ (hHeld) (fun hHeld' => ?_)
            clear hK K hHeld
            have hHeld := hHeld'
            clear hHeld'
            try simp only [Act.put, List.setIfInBounds_toArray, List.set_cons_zero, List.set_cons_succ]
            have HZ : Hid _ := HOut.out v3 wC hv3 hHeld
            refine wpAnyH_done (by kernel_rfl) ?_ _
            refine NoPanic.normal ?_
            clear hv1g hv2g hv3g hv3 hv2
            go_wp2
            go_ret
            exact HZ.out
          · go_simp
            refine hK.out _ _ (bel_alloc hHeld _) (fun hHeld' => ?_)
            clear hK K hHeld
            have hHeld := hHeld'
            clear hHeld'
            try simp only [Act.put, List.setIfInBounds_toArray, List.set_cons_zero, List.set_cons_succ]
            have hown0b := World.ownsRow.alloc hown0 (.cells #[.int .i64 x] 2)
            have hX : Blk ((wD.alloc (.cells #[] 2)).alloc (.cells #[.int .i64 x] 2)) (wD.heap.size + 1) [.int .i64 x] := Blk.new1 wD _ [.int .i64 x] _
            have hne : some (wD.heap.size + 1) ≠ some wD.heap.size := fun e => by injection e with e; omega
            refine rd1 4 (fun K hK => ?_)
            refine step_appI _ rfl _ _ _ rfl wr.heap.size 2 ie Try.underlying25 hie hze hse hbe (.slice (some ⟨wD.heap.size, 0, none⟩) 0 0) ([]) (by rfl) hown0b (some ⟨b, off, none⟩) (p) _ (l.take p) _ (by rfl) (HT.out.1 _ hHeld) (by rw [List.length_take]; omega) (by simp; omega) hHeld.out.size ?_
            intro v1 wA hv1 hv1g
            refine hK.out _ _ (bel_grow hHeld hv1g (fun k e => by have := World.ownsRow.lt hown0b k e; omega)) (fun hHeld' => ?_)
            clear hK K hHeld
            have hHeld := hHeld'
            clear hHeld'
            try simp only [Act.put, List.setIfInBounds_toArray, List.set_cons_zero, List.set_cons_succ]
            have hX1 := hX.kept hv1g hne
            have hcx := hX1.cell 0 (by simp)
            refine rd1 7 (fun K hK => ?_)
            refine step_appI _ rfl _ _ _ rfl wr.heap.size 2 ie Try.underlying25 hie hze hse hbe (v1) ([] ++ l.take p) (by rfl) hv1 (some ⟨wD.heap.size + 1, 0, none⟩) (1) _ ([x]) _ (by rfl) (ints_lit1 hcx HIx.out) (rfl) (by simp; omega) hHeld.out.size ?_
            intro v2 wB hv2 hv2g
            refine hK.out _ _ (bel_grow hHeld hv2g (fun k e => by have := World.ownsRow.lt hv1 k e; omega)) (fun hHeld' => ?_)
            clear hK K hHeld
            have hHeld := hHeld'
            clear hHeld'
            try simp only [Act.put, List.setIfInBounds_toArray, List.set_cons_zero, List.set_cons_succ]
            clear hcx
            refine rd1 11 (fun K hK => ?_)
            refine step_appI _ rfl _ _ _ rfl wr.heap.size 2 ie Try.underlying25 hie hze hse hbe (v2) (([] ++ l.take p) ++ [x]) (by rfl) hv2 ((some ⟨b, off + p, none⟩)) (n - p) _ (l.drop p) _ (by rfl) (HT.out.2 _ hHeld) (by rw [List.length_drop]; omega) (by simp; omega) hHeld.out.size ?_
            intro v3 wC hv3 hv3g
            refine hK.out _ _ (bel_grow hHeld hv3g (fun k e => by have := World.ownsRow.lt hv2 k e; omega)) (fun hHeld' => ?_)
            clear hK K hHeld
            have hHeld := hHeld'
            clear hHeld'
            try simp only [Act.put, List.setIfInBounds_toArray, List.set_cons_zero, List.set_cons_succ]
            refine rd1 12 (fun K hK => ?_)
            go_simp
            refine hK.out _ _ (hHeld) (fun hHeld' => ?_)
            clear hK K hHeld
            have hHeld := hHeld'
            clear hHeld'
            try simp only [Act.put, List.setIfInBounds_toArray, List.set_cons_zero, List.set_cons_succ]
            have HZ : Hid _ := HOut.out v3 wC hv3 hHeld
            refine wpAnyH_done (by kernel_rfl) ?_ _
            refine NoPanic.normal ?_
            clear hv1g hv2g hv3g hv3 hv2
            go_wp2
            go_ret
            exact HZ.out
        · go_simp
          refine hK.out _ _ (bel_alloc hHeld _) (fun hHeld' => ?_)
          clear hK K hHeld
          have hHeld := hHeld'
          clear hHeld'
          try simp only [Act.put, List.setIfInBounds_toArray, List.set_cons_zero, List.set_cons_succ]
          have hX : Blk (wD.alloc (.cells #[.int .i64 x] 2)) wD.heap.size [.int .i64 x] := Blk.new wD [.int .i64 x] _
          have hwl : wD.heap.size < (wD.alloc (.cells #[.int .i64 x] 2)).heap.size := by simp
          have hDl : wr.heap.size ≤ (wD.alloc (.cells #[.int .i64 x] 2)).heap.size := by have := HsD.out; omega
          generalize HwD2 : wD.alloc (.cells #[.int .i64 x] 2) = wD2 at *
          refine rd1 0 (fun K hK => ?_)
          go_simp
          refine hK.out _ _ (bel_alloc hHeld _) (fun hHeld' => ?_)
          clear hK K hHeld
          have hHeld := hHeld'
          clear hHeld'
          try simp only [Act.put, List.setIfInBounds_toArray, List.set_cons_zero, List.set_cons_succ]
          have hown0 : (wD2.alloc (.cells #[] 2)).ownsRow wr.heap.size 2 1 (.slice (some ⟨wD2.heap.size, 0, none⟩) 0 0) ([] : List Int).length (intsV []) := World.ownsRow_made (e := 2) (size := 1) (base := wr.heap.size) wD2 #[] 0 hDl (by unfold maxLen; omega) (by rfl)
          have hX0 := hX.bel (bel_alloc (Bel.refl wD2) (.cells #[] 2))
          have hne : some wD.heap.size ≠ some wD2.heap.size := fun e => by injection e with e; omega
          refine rd1 4 (fun K hK => ?_)
          refine step_appI _ rfl _ _ _ rfl wr.heap.size 2 ie Try.underlying25 hie hze hse hbe (.slice (some ⟨wD2.heap.size, 0, none⟩) 0 0) ([]) (by rfl) hown0 (some ⟨b, off, none⟩) (p) _ (l.take p) _ (by rfl) (HT.out.1 _ hHeld) (by rw [List.length_take]; omega) (by simp; omega) hHeld.out.size ?_
          intro v1 wA hv1 hv1g
          refine hK.out _ _ (bel_grow hHeld hv1g (fun k e => by have := World.ownsRow.lt hown0 k e; omega)) (fun hHeld' => ?_)
          clear hK K hHeld
          have hHeld := hHeld'
          clear hHeld'
          try simp only [Act.put, List.setIfInBounds_toArray, List.set_cons_zero, List.set_cons_succ]
          have hX1 := hX0.kept hv1g hne
          have hcx := hX1.cell 0 (by simp)
          refine rd1 7 (fun K hK => ?_)
          refine step_appI _ rfl _ _ _ rfl wr.heap.size 2 ie Try.underlying25 hie hze hse hbe (v1) ([] ++ l.take p) (by rfl) hv1 (some ⟨wD.heap.size, 0, none⟩) (1) _ ([x]) _ (by rfl) (ints_lit1 hcx HIx.out) (rfl) (by simp; omega) hHeld.out.size ?_
          intro v2 wB hv2 hv2g
          refine hK.out _ _ (bel_grow hHeld hv2g (fun k e => by have := World.ownsRow.lt hv1 k e; omega)) (fun hHeld' => ?_)
          clear hK K hHeld
          have hHeld := hHeld'
          clear hHeld'
          try simp only [Act.put, List.setIfInBounds_toArray, List.set_cons_zero, List.set_cons_succ]
          clear hcx
          refine rd1 11 (fun K hK => ?_)
          refine step_appI _ rfl _ _ _ rfl wr.heap.size 2 ie Try.underlying25 hie hze hse hbe (v2) (([] ++ l.take p) ++ [x]) (by rfl) hv2 ((some ⟨b, off + p, none⟩)) (n - p) _ (l.drop p) _ (by rfl) (HT.out.2 _ hHeld) (by rw [List.length_drop]; omega) (by simp; omega) hHeld.out.size ?_
          intro v3 wC hv3 hv3g
          refine hK.out _ _ (bel_grow hHeld hv3g (fun k e => by have := World.ownsRow.lt hv2 k e; omega)) (fun hHeld' => ?_)
          clear hK K hHeld
          have hHeld := hHeld'
          clear hHeld'
          try simp only [Act.put, List.setIfInBounds_toArray, List.set_cons_zero, List.set_cons_succ]
          refine rd1 12 (fun K hK => ?_)
          go_simp
          refine hK.out _ _ (hHeld) (fun hHeld' => ?_)
          clear hK K hHeld
          have hHeld := hHeld'
          clear hHeld'
          try simp only [Act.put, List.setIfInBounds_toArray, List.set_cons_zero, List.set_cons_succ]
          have HZ : Hid _ := HOut.out v3 wC hv3 hHeld
          refine wpAnyH_done (by kernel_rfl) ?_ _
          refine NoPanic.normal ?_
          clear hv1g hv2g hv3g hv3 hv2
          go_wp2
          go_ret
          exact HZ.out
    · have e : p = n := by omega
      subst e
      have hltI : ¬ (p : Int) < (p : Int) := by omega
      have hd : l.drop p = [] := List.drop_eq_nil_of_le (by rw [Hn.out]; exact Nat.le_refl _)
      have HOut : Hid (∀ v3 wC, wC.ownsRow wr.heap.size 2 1 v3 ((([] ++ l.take p) ++ [x]) ++ l.drop p).length (intsV ((([] ++ l.take p) ++ [x]) ++ l.drop p)) → Bel wr wC → InsOut wr l x (.returned v3) wC) := fun v3 wC h hb => by
        have e : (([] ++ l.take p) ++ [x]) ++ l.drop p = l.take p ++ x :: l.drop p := by simp
        rw [e] at h
        exact ⟨v3, _, rfl, h, ins_perm l p x, ins_asc Hs.out (by rw [Hn.out]; exact Nat.le_refl _) HB.out (fun h => by rw [Hn.out] at h; omega) Hx.out, hb⟩
      obtain ⟨bs1, hbs1⟩ := ints_take HT0.out p
      have hbs2 : ∀ w' ad, Ints w' ad (l.drop p) [] := fun w' ad => by rw [hd]; exact Sl.nil
      have HT : Hid ((∀ w', Bel wr w' → Ints w' (some ⟨b, off, none⟩) (l.take p) bs1) ∧ (∀ w', Bel wr w' → Ints w' (some ⟨b, off + p, none⟩) (l.drop p) [])) := ⟨fun w' h => hbs1.bel intE h, fun w' h => hbs2 w' _⟩
      have Hlast : Hid (∀ w' ad, Ints w' ad (l.drop p) []) := hbs2
      have hpc : (p : Int) ≤ (c : Int) := by omega
      clear hbs1 hbs2 hd
      by_cases hcp : c = p
      · have hcp := hcp.symm
        subst hcp
        go_upto_region 6 with fail
        refine wp_region_noPanic ?_
        refine wp_region_held_drew (S := (fun w' => Bel wr w')) (by kernel_rfl) (Bel.refl _).drew (fun hHeld => ?_)
        generalize wr.drew = wD at hHeld ⊢
        refine tk 1 hHeld ?_; refine tk 2 hHeld ?_; refine tk 3 hHeld ?_; refine tk 5 hHeld ?_; refine tk 8 hHeld ?_; refine tk 9 hHeld ?_
        refine tk 10 hHeld ?_
        have HsD : Hid (wr.heap.size ≤ wD.heap.size) := hHeld.out.size
        refine rd2 0 6 (fun K hK => ?_) (fun K hK => ?_)
        · go_simp
          refine hK.out _ _ (bel_alloc hHeld _) (fun hHeld' => ?_)
          clear hK K hHeld
          have hHeld := hHeld'
          clear hHeld'
          try simp only [Act.put, List.setIfInBounds_toArray, List.set_cons_zero, List.set_cons_succ]
          have hown0 : (wD.alloc (.cells #[] 2)).ownsRow wr.heap.size 2 1 (.slice (some ⟨wD.heap.size, 0, none⟩) 0 0) ([] : List Int).length (intsV []) := World.ownsRow_made (e := 2) (size := 1) (base := wr.heap.size) wD #[] 0 HsD.out (by unfold maxLen; omega) (by rfl)
          refine rd2 4 6 (fun K hK => ?_) (fun K hK => ?_)
          · refine step_appI _ rfl _ _ _ rfl wr.heap.size 2 ie Try.underlying25 hie hze hse hbe (.slice (some ⟨wD.heap.size, 0, none⟩) 0 0) ([]) (by rfl) hown0 (some ⟨b, off, none⟩) (p) _ (l.take p) _ (by rfl) (HT.out.1 _ hHeld) (by rw [List.length_take]; omega) (by simp; omega) hHeld.out.size ?_
            intro v1 wA hv1 hv1g
            refine hK.out _ _ (bel_grow hHeld hv1g (fun k e => by have := World.ownsRow.lt hown0 k e; omega)) (fun hHeld' => ?_)
            clear hK K hHeld
            have hHeld := hHeld'
            clear hHeld'
            try simp only [Act.put, List.setIfInBounds_toArray, List.set_cons_zero, List.set_cons_succ]
            refine rd1 6 (fun K hK => ?_)
            go_simp
            refine hK.out _ _ (bel_alloc hHeld _) (fun hHeld' => ?_)
            clear hK K hHeld
            have hHeld := hHeld'
            clear hHeld'
            try simp only [Act.put, List.setIfInBounds_toArray, List.set_cons_zero, List.set_cons_succ]
            have hv1b := World.ownsRow.alloc hv1 (.cells #[.int .i64 x] 2)
            have hcx := (Blk.new wA [.int .i64 x] 2).cell 0 (by simp)
            refine rd1 7 (fun K hK => ?_)
            refine step_appI _ rfl _ _ _ rfl wr.heap.size 2 ie Try.underlying25 hie hze hse hbe (v1) ([] ++ l.take p) (by rfl) hv1b (some ⟨wA.heap.size, 0, none⟩) (1) _ ([x]) _ (by rfl) (ints_lit1 hcx HIx.out) (rfl) (by simp; omega) hHeld.out.size ?_
            intro v2 wB hv2 hv2g
            refine hK.out _ _ (bel_grow hHeld hv2g (fun k e => by have := World.ownsRow.lt hv1b k e; omega)) (fun hHeld' => ?_)
            clear hK K hHeld
            have hHeld := hHeld'
            clear hHeld'
            try simp only [Act.put, List.setIfInBounds_toArray, List.set_cons_zero, List.set_cons_succ]
            clear hcx
            refine rd1 11 (fun K hK => ?_)
            refine step_appI _ rfl _ _ _ rfl wr.heap.size 2 ie Try.underlying25 hie hze hse hbe (v2) (([] ++ l.take p) ++ [x]) (by rfl) hv2 (_) (0) _ (l.drop p) _ (by rfl) (Hlast.out _ _) (by rw [List.length_drop]; omega) (by simp; omega) hHeld.out.size ?_
            intro v3 wC hv3 hv3g
            refine hK.out _ _ (bel_grow hHeld hv3g (fun k e => by have := World.ownsRow.lt hv2 k e; omega)) (fun hHeld' => ?_)
            clear hK K hHeld
            have hHeld := hHeld'
            clear hHeld'
            try simp only [Act.put, List.setIfInBounds_toArray, List.set_cons_zero, List.set_cons_succ]
            refine rd1 12 (fun K hK => ?_)
            go_simp
            refine hK.out _ _ (hHeld) (fun hHeld' => ?_)
            clear hK K hHeld
            have hHeld := hHeld'
            clear hHeld'
            try simp only [Act.put, List.setIfInBounds_toArray, List.set_cons_zero, List.set_cons_succ]
            have HZ : Hid _ := HOut.out v3 wC hv3 hHeld
            refine wpAnyH_done (by kernel_rfl) ?_ _
            refine NoPanic.normal ?_
            clear hv1g hv2g hv3g hv3 hv2
            go_wp2
            go_ret
            exact HZ.out
          · go_simp
            refine hK.out _ _ (bel_alloc hHeld _) (fun hHeld' => ?_)
            clear hK K hHeld
            have hHeld := hHeld'
            clear hHeld'
            try simp only [Act.put, List.setIfInBounds_toArray, List.set_cons_zero, List.set_cons_succ]
            have hown0b := World.ownsRow.alloc hown0 (.cells #[.int .i64 x] 2)
            have hX : Blk ((wD.alloc (.cells #[] 2)).alloc (.cells #[.int .i64 x] 2)) (wD.heap.size + 1) [.int .i64 x] := Blk.new1 wD _ [.int .i64 x] _
            have hne : some (wD.heap.size + 1) ≠ some wD.heap.size := fun e => by injection e with e; omega
            refine rd1 4 (fun K hK => ?_)
            refine step_appI _ rfl _ _ _ rfl wr.heap.size 2 ie Try.underlying25 hie hze hse hbe (.slice (some ⟨wD.heap.size, 0, none⟩) 0 0) ([]) (by rfl) hown0b (some ⟨b, off, none⟩) (p) _ (l.take p) _ (by rfl) (HT.out.1 _ hHeld) (by rw [List.length_take]; omega) (by simp; omega) hHeld.out.size ?_
            intro v1 wA hv1 hv1g
            refine hK.out _ _ (bel_grow hHeld hv1g (fun k e => by have := World.ownsRow.lt hown0b k e; omega)) (fun hHeld' => ?_)
            clear hK K hHeld
            have hHeld := hHeld'
            clear hHeld'
            try simp only [Act.put, List.setIfInBounds_toArray, List.set_cons_zero, List.set_cons_succ]
            have hX1 := hX.kept hv1g hne
            have hcx := hX1.cell 0 (by simp)
            refine rd1 7 (fun K hK => ?_)
            refine step_appI _ rfl _ _ _ rfl wr.heap.size 2 ie Try.underlying25 hie hze hse hbe (v1) ([] ++ l.take p) (by rfl) hv1 (some ⟨wD.heap.size + 1, 0, none⟩) (1) _ ([x]) _ (by rfl) (ints_lit1 hcx HIx.out) (rfl) (by simp; omega) hHeld.out.size ?_
            intro v2 wB hv2 hv2g
            refine hK.out _ _ (bel_grow hHeld hv2g (fun k e => by have := World.ownsRow.lt hv1 k e; omega)) (fun hHeld' => ?_)
            clear hK K hHeld
            have hHeld := hHeld'
            clear hHeld'
            try simp only [Act.put, List.setIfInBounds_toArray, List.set_cons_zero, List.set_cons_succ]
            clear hcx
            refine rd1 11 (fun K hK => ?_)
            refine step_appI _ rfl _ _ _ rfl wr.heap.size 2 ie Try.underlying25 hie hze hse hbe (v2) (([] ++ l.take p) ++ [x]) (by rfl) hv2 (_) (0) _ (l.drop p) _ (by rfl) (Hlast.out _ _) (by rw [List.length_drop]; omega) (by simp; omega) hHeld.out.size ?_
            intro v3 wC hv3 hv3g
            refine hK.out _ _ (bel_grow hHeld hv3g (fun k e => by have := World.ownsRow.lt hv2 k e; omega)) (fun hHeld' => ?_)
            clear hK K hHeld
            have hHeld := hHeld'
            clear hHeld'
            try simp only [Act.put, List.setIfInBounds_toArray, List.set_cons_zero, List.set_cons_succ]
            refine rd1 12 (fun K hK => ?_)
            go_simp
            refine hK.out _ _ (hHeld) (fun hHeld' => ?_)
            clear hK K hHeld
            have hHeld := hHeld'
            clear hHeld'
            try simp only [Act.put, List.setIfInBounds_toArray, List.set_cons_zero, List.set_cons_succ]
            have HZ : Hid _ := HOut.out v3 wC hv3 hHeld
            refine wpAnyH_done (by kernel_rfl) ?_ _
            refine NoPanic.normal ?_
            clear hv1g hv2g hv3g hv3 hv2
            go_wp2
            go_ret
            exact HZ.out
        · go_simp
          refine hK.out _ _ (bel_alloc hHeld _) (fun hHeld' => ?_)
          clear hK K hHeld
          have hHeld := hHeld'
          clear hHeld'
          try simp only [Act.put, List.setIfInBounds_toArray, List.set_cons_zero, List.set_cons_succ]
          have hX : Blk (wD.alloc (.cells #[.int .i64 x] 2)) wD.heap.size [.int .i64 x] := Blk.new wD [.int .i64 x] _
          have hwl : wD.heap.size < (wD.alloc (.cells #[.int .i64 x] 2)).heap.size := by simp
          have hDl : wr.heap.size ≤ (wD.alloc (.cells #[.int .i64 x] 2)).heap.size := by have := HsD.out; omega
          generalize HwD2 : wD.alloc (.cells #[.int .i64 x] 2) = wD2 at *
          refine rd1 0 (fun K hK => ?_)
          go_simp
          refine hK.out _ _ (bel_alloc hHeld _) (fun hHeld' => ?_)
          clear hK K hHeld
          have hHeld := hHeld'
          clear hHeld'
          try simp only [Act.put, List.setIfInBounds_toArray, List.set_cons_zero, List.set_cons_succ]
          have hown0 : (wD2.alloc (.cells #[] 2)).ownsRow wr.heap.size 2 1 (.slice (some ⟨wD2.heap.size, 0, none⟩) 0 0) ([] : List Int).length (intsV []) := World.ownsRow_made (e := 2) (size := 1) (base := wr.heap.size) wD2 #[] 0 hDl (by unfold maxLen; omega) (by rfl)
          have hX0 := hX.bel (bel_alloc (Bel.refl wD2) (.cells #[] 2))
          have hne : some wD.heap.size ≠ some wD2.heap.size := fun e => by injection e with e; omega
          refine rd1 4 (fun K hK => ?_)
          refine step_appI _ rfl _ _ _ rfl wr.heap.size 2 ie Try.underlying25 hie hze hse hbe (.slice (some ⟨wD2.heap.size, 0, none⟩) 0 0) ([]) (by rfl) hown0 (some ⟨b, off, none⟩) (p) _ (l.take p) _ (by rfl) (HT.out.1 _ hHeld) (by rw [List.length_take]; omega) (by simp; omega) hHeld.out.size ?_
          intro v1 wA hv1 hv1g
          refine hK.out _ _ (bel_grow hHeld hv1g (fun k e => by have := World.ownsRow.lt hown0 k e; omega)) (fun hHeld' => ?_)
          clear hK K hHeld
          have hHeld := hHeld'
          clear hHeld'
          try simp only [Act.put, List.setIfInBounds_toArray, List.set_cons_zero, List.set_cons_succ]
          have hX1 := hX0.kept hv1g hne
          have hcx := hX1.cell 0 (by simp)
          refine rd1 7 (fun K hK => ?_)
          refine step_appI _ rfl _ _ _ rfl wr.heap.size 2 ie Try.underlying25 hie hze hse hbe (v1) ([] ++ l.take p) (by rfl) hv1 (some ⟨wD.heap.size, 0, none⟩) (1) _ ([x]) _ (by rfl) (ints_lit1 hcx HIx.out) (rfl) (by simp; omega) hHeld.out.size ?_
          intro v2 wB hv2 hv2g
          refine hK.out _ _ (bel_grow hHeld hv2g (fun k e => by have := World.ownsRow.lt hv1 k e; omega)) (fun hHeld' => ?_)
          clear hK K hHeld
          have hHeld := hHeld'
          clear hHeld'
          try simp only [Act.put, List.setIfInBounds_toArray, List.set_cons_zero, List.set_cons_succ]
          clear hcx
          refine rd1 11 (fun K hK => ?_)
          refine step_appI _ rfl _ _ _ rfl wr.heap.size 2 ie Try.underlying25 hie hze hse hbe (v2) (([] ++ l.take p) ++ [x]) (by rfl) hv2 (_) (0) _ (l.drop p) _ (by rfl) (Hlast.out _ _) (by rw [List.length_drop]; omega) (by simp; omega) hHeld.out.size ?_
          intro v3 wC hv3 hv3g
          refine hK.out _ _ (bel_grow hHeld hv3g (fun k e => by have := World.ownsRow.lt hv2 k e; omega)) (fun hHeld' => ?_)
          clear hK K hHeld
          have hHeld := hHeld'
          clear hHeld'
          try simp only [Act.put, List.setIfInBounds_toArray, List.set_cons_zero, List.set_cons_succ]
          refine rd1 12 (fun K hK => ?_)
          go_simp
          refine hK.out _ _ (hHeld) (fun hHeld' => ?_)
          clear hK K hHeld
          have hHeld := hHeld'
          clear hHeld'
          try simp only [Act.put, List.setIfInBounds_toArray, List.set_cons_zero, List.set_cons_succ]
          have HZ : Hid _ := HOut.out v3 wC hv3 hHeld
          refine wpAnyH_done (by kernel_rfl) ?_ _
          refine NoPanic.normal ?_
          clear hv1g hv2g hv3g hv3 hv2
          go_wp2
          go_ret
          exact HZ.out
      · have hpc2 : (p : Int) < (c : Int) := by omega
        have hn' : p - p = 0 := by omega
        go_upto_region 6 with fail
        refine wp_region_noPanic ?_
        refine wp_region_held_drew (S := (fun w' => Bel wr w')) (by kernel_rfl) (Bel.refl _).drew (fun hHeld => ?_)
        generalize wr.drew = wD at hHeld ⊢
        refine tk 1 hHeld ?_; refine tk 2 hHeld ?_; refine tk 3 hHeld ?_; refine tk 5 hHeld ?_; refine tk 8 hHeld ?_; refine tk 9 hHeld ?_
        refine tkv 10 (.slice (some ⟨b, off + p, none⟩) (p - p) (c - p)) hHeld ?_ (hy := by (intro w hSw; (try dsimp only at hSw); go_simp; first | done | (intro h; omega)))
        have HsD : Hid (wr.heap.size ≤ wD.heap.size) := hHeld.out.size
        refine rd2 0 6 (fun K hK => ?_) (fun K hK => ?_)
        · go_simp
          refine hK.out _ _ (bel_alloc hHeld _) (fun hHeld' => ?_)
          clear hK K hHeld
          have hHeld := hHeld'
          clear hHeld'
          try simp only [Act.put, List.setIfInBounds_toArray, List.set_cons_zero, List.set_cons_succ]
          have hown0 : (wD.alloc (.cells #[] 2)).ownsRow wr.heap.size 2 1 (.slice (some ⟨wD.heap.size, 0, none⟩) 0 0) ([] : List Int).length (intsV []) := World.ownsRow_made (e := 2) (size := 1) (base := wr.heap.size) wD #[] 0 HsD.out (by unfold maxLen; omega) (by rfl)
          refine rd2 4 6 (fun K hK => ?_) (fun K hK => ?_)
          · refine step_appI _ rfl _ _ _ rfl wr.heap.size 2 ie Try.underlying25 hie hze hse hbe (.slice (some ⟨wD.heap.size, 0, none⟩) 0 0) ([]) (by rfl) hown0 (some ⟨b, off, none⟩) (p) _ (l.take p) _ (by rfl) (HT.out.1 _ hHeld) (by rw [List.length_take]; omega) (by simp; omega) hHeld.out.size ?_
            intro v1 wA hv1 hv1g
            refine hK.out _ _ (bel_grow hHeld hv1g (fun k e => by have := World.ownsRow.lt hown0 k e; omega)) (fun hHeld' => ?_)
            clear hK K hHeld
            have hHeld := hHeld'
            clear hHeld'
            try simp only [Act.put, List.setIfInBounds_toArray, List.set_cons_zero, List.set_cons_succ]
            refine rd1 6 (fun K hK => ?_)
            go_simp
            refine hK.out _ _ (bel_alloc hHeld _) (fun hHeld' => ?_)
            clear hK K hHeld
            have hHeld := hHeld'
            clear hHeld'
            try simp only [Act.put, List.setIfInBounds_toArray, List.set_cons_zero, List.set_cons_succ]
            have hv1b := World.ownsRow.alloc hv1 (.cells #[.int .i64 x] 2)
            have hcx := (Blk.new wA [.int .i64 x] 2).cell 0 (by simp)
            refine rd1 7 (fun K hK => ?_)
            refine step_appI _ rfl _ _ _ rfl wr.heap.size 2 ie Try.underlying25 hie hze hse hbe (v1) ([] ++ l.take p) (by rfl) hv1b (some ⟨wA.heap.size, 0, none⟩) (1) _ ([x]) _ (by rfl) (ints_lit1 hcx HIx.out) (rfl) (by simp; omega) hHeld.out.size ?_
            intro v2 wB hv2 hv2g
            refine hK.out _ _ (bel_grow hHeld hv2g (fun k e => by have := World.ownsRow.lt hv1b k e; omega)) (fun hHeld' => ?_)
            clear hK K hHeld
            have hHeld := hHeld'
            clear hHeld'
            try simp only [Act.put, List.setIfInBounds_toArray, List.set_cons_zero, List.set_cons_succ]
            clear hcx
            refine rd1 11 (fun K hK => ?_)
            refine step_appI _ rfl _ _ _ rfl wr.heap.size 2 ie Try.underlying25 hie hze hse hbe (v2) (([] ++ l.take p) ++ [x]) (by rfl) hv2 ((some ⟨b, off + p, none⟩)) (0) _ (l.drop p) _ (by rfl) (HT.out.2 _ hHeld) (by rw [List.length_drop]; omega) (by simp; omega) hHeld.out.size ?_
            intro v3 wC hv3 hv3g
            refine hK.out _ _ (bel_grow hHeld hv3g (fun k e => by have := World.ownsRow.lt hv2 k e; omega)) (fun hHeld' => ?_)
            clear hK K hHeld
            have hHeld := hHeld'
            clear hHeld'
            try simp only [Act.put, List.setIfInBounds_toArray, List.set_cons_zero, List.set_cons_succ]
            refine rd1 12 (fun K hK => ?_)
            go_simp
            refine hK.out _ _ (hHeld) (fun hHeld' => ?_)
            clear hK K hHeld
            have hHeld := hHeld'
            clear hHeld'
            try simp only [Act.put, List.setIfInBounds_toArray, List.set_cons_zero, List.set_cons_succ]
            have HZ : Hid _ := HOut.out v3 wC hv3 hHeld
            refine wpAnyH_done (by kernel_rfl) ?_ _
            refine NoPanic.normal ?_
            clear hv1g hv2g hv3g hv3 hv2
            go_wp2
            go_ret
            exact HZ.out
          · go_simp
            refine hK.out _ _ (bel_alloc hHeld _) (fun hHeld' => ?_)
            clear hK K hHeld
            have hHeld := hHeld'
            clear hHeld'
            try simp only [Act.put, List.setIfInBounds_toArray, List.set_cons_zero, List.set_cons_succ]
            have hown0b := World.ownsRow.alloc hown0 (.cells #[.int .i64 x] 2)
            have hX : Blk ((wD.alloc (.cells #[] 2)).alloc (.cells #[.int .i64 x] 2)) (wD.heap.size + 1) [.int .i64 x] := Blk.new1 wD _ [.int .i64 x] _
            have hne : some (wD.heap.size + 1) ≠ some wD.heap.size := fun e => by injection e with e; omega
            refine rd1 4 (fun K hK => ?_)
            refine step_appI _ rfl _ _ _ rfl wr.heap.size 2 ie Try.underlying25 hie hze hse hbe (.slice (some ⟨wD.heap.size, 0, none⟩) 0 0) ([]) (by rfl) hown0b (some ⟨b, off, none⟩) (p) _ (l.take p) _ (by rfl) (HT.out.1 _ hHeld) (by rw [List.length_take]; omega) (by simp; omega) hHeld.out.size ?_
            intro v1 wA hv1 hv1g
            refine hK.out _ _ (bel_grow hHeld hv1g (fun k e => by have := World.ownsRow.lt hown0b k e; omega)) (fun hHeld' => ?_)
            clear hK K hHeld
            have hHeld := hHeld'
            clear hHeld'
            try simp only [Act.put, List.setIfInBounds_toArray, List.set_cons_zero, List.set_cons_succ]
            have hX1 := hX.kept hv1g hne
            have hcx := hX1.cell 0 (by simp)
            refine rd1 7 (fun K hK => ?_)
            refine step_appI _ rfl _ _ _ rfl wr.heap.size 2 ie Try.underlying25 hie hze hse hbe (v1) ([] ++ l.take p) (by rfl) hv1 (some ⟨wD.heap.size + 1, 0, none⟩) (1) _ ([x]) _ (by rfl) (ints_lit1 hcx HIx.out) (rfl) (by simp; omega) hHeld.out.size ?_
            intro v2 wB hv2 hv2g
            refine hK.out _ _ (bel_grow hHeld hv2g (fun k e => by have := World.ownsRow.lt hv1 k e; omega)) (fun hHeld' => ?_)
            clear hK K hHeld
            have hHeld := hHeld'
            clear hHeld'
            try simp only [Act.put, List.setIfInBounds_toArray, List.set_cons_zero, List.set_cons_succ]
            clear hcx
            refine rd1 11 (fun K hK => ?_)
            refine step_appI _ rfl _ _ _ rfl wr.heap.size 2 ie Try.underlying25 hie hze hse hbe (v2) (([] ++ l.take p) ++ [x]) (by rfl) hv2 ((some ⟨b, off + p, none⟩)) (0) _ (l.drop p) _ (by rfl) (HT.out.2 _ hHeld) (by rw [List.length_drop]; omega) (by simp; omega) hHeld.out.size ?_
            intro v3 wC hv3 hv3g
            refine hK.out _ _ (bel_grow hHeld hv3g (fun k e => by have := World.ownsRow.lt hv2 k e; omega)) (fun hHeld' => ?_)
            clear hK K hHeld
            have hHeld := hHeld'
            clear hHeld'
            try simp only [Act.put, List.setIfInBounds_toArray, List.set_cons_zero, List.set_cons_succ]
            refine rd1 12 (fun K hK => ?_)
            go_simp
            refine hK.out _ _ (hHeld) (fun hHeld' => ?_)
            clear hK K hHeld
            have hHeld := hHeld'
            clear hHeld'
            try simp only [Act.put, List.setIfInBounds_toArray, List.set_cons_zero, List.set_cons_succ]
            have HZ : Hid _ := HOut.out v3 wC hv3 hHeld
            refine wpAnyH_done (by kernel_rfl) ?_ _
            refine NoPanic.normal ?_
            clear hv1g hv2g hv3g hv3 hv2
            go_wp2
            go_ret
            exact HZ.out
        · go_simp
          refine hK.out _ _ (bel_alloc hHeld _) (fun hHeld' => ?_)
          clear hK K hHeld
          have hHeld := hHeld'
          clear hHeld'
          try simp only [Act.put, List.setIfInBounds_toArray, List.set_cons_zero, List.set_cons_succ]
          have hX : Blk (wD.alloc (.cells #[.int .i64 x] 2)) wD.heap.size [.int .i64 x] := Blk.new wD [.int .i64 x] _
          have hwl : wD.heap.size < (wD.alloc (.cells #[.int .i64 x] 2)).heap.size := by simp
          have hDl : wr.heap.size ≤ (wD.alloc (.cells #[.int .i64 x] 2)).heap.size := by have := HsD.out; omega
          generalize HwD2 : wD.alloc (.cells #[.int .i64 x] 2) = wD2 at *
          refine rd1 0 (fun K hK => ?_)
          go_simp
          refine hK.out _ _ (bel_alloc hHeld _) (fun hHeld' => ?_)
          clear hK K hHeld
          have hHeld := hHeld'
          clear hHeld'
          try simp only [Act.put, List.setIfInBounds_toArray, List.set_cons_zero, List.set_cons_succ]
          have hown0 : (wD2.alloc (.cells #[] 2)).ownsRow wr.heap.size 2 1 (.slice (some ⟨wD2.heap.size, 0, none⟩) 0 0) ([] : List Int).length (intsV []) := World.ownsRow_made (e := 2) (size := 1) (base := wr.heap.size) wD2 #[] 0 hDl (by unfold maxLen; omega) (by rfl)
          have hX0 := hX.bel (bel_alloc (Bel.refl wD2) (.cells #[] 2))
          have hne : some wD.heap.size ≠ some wD2.heap.size := fun e => by injection e with e; omega
          refine rd1 4 (fun K hK => ?_)
          refine step_appI _ rfl _ _ _ rfl wr.heap.size 2 ie Try.underlying25 hie hze hse hbe (.slice (some ⟨wD2.heap.size, 0, none⟩) 0 0) ([]) (by rfl) hown0 (some ⟨b, off, none⟩) (p) _ (l.take p) _ (by rfl) (HT.out.1 _ hHeld) (by rw [List.length_take]; omega) (by simp; omega) hHeld.out.size ?_
          intro v1 wA hv1 hv1g
          refine hK.out _ _ (bel_grow hHeld hv1g (fun k e => by have := World.ownsRow.lt hown0 k e; omega)) (fun hHeld' => ?_)
          clear hK K hHeld
          have hHeld := hHeld'
          clear hHeld'
          try simp only [Act.put, List.setIfInBounds_toArray, List.set_cons_zero, List.set_cons_succ]
          have hX1 := hX0.kept hv1g hne
          have hcx := hX1.cell 0 (by simp)
          refine rd1 7 (fun K hK => ?_)
          refine step_appI _ rfl _ _ _ rfl wr.heap.size 2 ie Try.underlying25 hie hze hse hbe (v1) ([] ++ l.take p) (by rfl) hv1 (some ⟨wD.heap.size, 0, none⟩) (1) _ ([x]) _ (by rfl) (ints_lit1 hcx HIx.out) (rfl) (by simp; omega) hHeld.out.size ?_
          intro v2 wB hv2 hv2g
          refine hK.out _ _ (bel_grow hHeld hv2g (fun k e => by have := World.ownsRow.lt hv1 k e; omega)) (fun hHeld' => ?_)
          clear hK K hHeld
          have hHeld := hHeld'
          clear hHeld'
          try simp only [Act.put, List.setIfInBounds_toArray, List.set_cons_zero, List.set_cons_succ]
          clear hcx
          refine rd1 11 (fun K hK => ?_)
          refine step_appI _ rfl _ _ _ rfl wr.heap.size 2 ie Try.underlying25 hie hze hse hbe (v2) (([] ++ l.take p) ++ [x]) (by rfl) hv2 ((some ⟨b, off + p, none⟩)) (0) _ (l.drop p) _ (by rfl) (HT.out.2 _ hHeld) (by rw [List.length_drop]; omega) (by simp; omega) hHeld.out.size ?_
          intro v3 wC hv3 hv3g
          refine hK.out _ _ (bel_grow hHeld hv3g (fun k e => by have := World.ownsRow.lt hv2 k e; omega)) (fun hHeld' => ?_)
          clear hK K hHeld
          have hHeld := hHeld'
          clear hHeld'
          try simp only [Act.put, List.setIfInBounds_toArray, List.set_cons_zero, List.set_cons_succ]
          refine rd1 12 (fun K hK => ?_)
          go_simp
          refine hK.out _ _ (hHeld) (fun hHeld' => ?_)
          clear hK K hHeld
          have hHeld := hHeld'
          clear hHeld'
          try simp only [Act.put, List.setIfInBounds_toArray, List.set_cons_zero, List.set_cons_succ]
          have HZ : Hid _ := HOut.out v3 wC hv3 hHeld
          refine wpAnyH_done (by kernel_rfl) ?_ _
          refine NoPanic.normal ?_
          clear hv1g hv2g hv3g hv3 hv2
          go_wp2
          go_ret
          exact HZ.out
end Go.Proofs.Ytpbpnkklnbmkeaa

namespace Go.Proofs.Ytpbpnkklnbmkeaa
open Go.RowKit Go.Maps

theorem own_intsB {base : Nat} {e : TypeId} {w : World} {v : Value} {l : List Int} (h : w.ownsRow base e 1 v l.length (intsV l)) (hi : ∀ y ∈ l, In64 y) : ∃ a c bs, v = .slice a l.length c ∧ Ints w a l bs ∧ ∀ x ∈ bs, base ≤ x := by
  obtain ⟨a, c, rfl⟩ := own_shape h
  rcases Nat.eq_zero_or_pos l.length with z | z
  · obtain rfl : l = [] := List.length_eq_zero_iff.1 z
    exact ⟨a, c, [], rfl, Sl.nil, fun _ h => nomatch h⟩
  · rcases h.2 with ⟨_, hz⟩ | ⟨g, cap, cur, e, hg, e3, _⟩
    · omega
    · cases e
      have hlt : g < w.heap.size := (Array.getElem?_eq_some_iff.1 e3).1
      refine ⟨_, _, g :: (List.range l.length).flatMap (fun _ => ([] : List Nat)), rfl, .inr ⟨g, 0, fun _ => [], rfl, hlt, rfl, fun i hil => ⟨rfl, hi _ (List.getElem_mem hil), ?_⟩⟩, fun x hx => ?_⟩
      · rw [Nat.zero_add, Nat.mul_one, h.cellAt i (by omega)]
        simp [intsV, hil]
      · simp at hx
        subst hx
        exact hg
theorem own_intsT {base : Nat} {e : TypeId} {w : World} {v : Value} {l : List Int} (h : w.ownsRow base e 1 v l.length (intsV l)) (hi : ∀ y ∈ l, In64 y) : ∃ a c bs, v = .slice a l.length c ∧ Ints w a l bs := by
  obtain ⟨a, c, bs, h1, h2, _⟩ := own_intsB h hi
  exact ⟨a, c, bs, h1, h2⟩
theorem own_someT {base : Nat} {e : TypeId} {q : Nat} {w : World} {v : Value} {n : Nat} {xs : List Value} (h : w.ownsRow base e q v n xs) (hn : 0 < n) : ∃ g cap, v = .slice (some ⟨g, 0, none⟩) n cap ∧ n ≤ cap := by
  rcases h.2 with ⟨_, h0⟩ | ⟨g, cap, cur, e1, _, _, e4, _⟩
  · omega
  · exact ⟨g, cap, e1, e4⟩
def lbC (v : World) (b o : Nat) (d : LblD) : Prop := v.cell? ⟨b, o, none⟩ = some (.int .i64 d.id) ∧ v.cell? ⟨b, o + 1, none⟩ = some (.int .i64 d.x) ∧ v.cell? ⟨b, o + 2, none⟩ = some (.int .i64 d.y) ∧ v.cell? ⟨b, o + 3, none⟩ = some (.int .i64 d.wd) ∧ v.cell? ⟨b, o + 4, none⟩ = some (.int .i64 d.ht) ∧ v.cell? ⟨b, o + 5, none⟩ = some (.int .i64 d.rk)
theorem lbC_of {v : World} {b o : Nat} {d : LblD} {bs : List Nat} (h : LblE v b o d bs) : lbC v b o d := by
  obtain ⟨_, _, _, _, _, _, _, c⟩ := h
  exact c
/-- Numbers of labels; the labels of numbers. -/
def cstI (os : List Nat) : List Int := os.map fun (i : Nat) => (i : Int)
def gtL (l : List LblD) (i : Nat) : LblD := l.getD i ⟨0, 0, 0, 0, 0, 0⟩
def labO (l : List LblD) (os : List Nat) : List LblD := os.map (gtL l)
theorem gtL_at {l : List LblD} {i : Nat} (h : i < l.length) : gtL l i = l[i] := by unfold gtL; simp [h]
theorem cstI_len (os : List Nat) : (cstI os).length = os.length := List.length_map ..
theorem labO_len (l : List LblD) (os : List Nat) : (labO l os).length = os.length := List.length_map ..
theorem cstI_ins (os : List Nat) (p k : Nat) : cstI (os.take p ++ k :: os.drop p) = ((cstI os).take p ++ [(k : Int)]) ++ (cstI os).drop p := by simp [cstI, List.map_take, List.map_drop]
theorem labO_ins (l : List LblD) (os : List Nat) (p k : Nat) : labO l (os.take p ++ k :: os.drop p) = (labO l os).take p ++ gtL l k :: (labO l os).drop p := by simp [labO, List.map_take, List.map_drop]
theorem ord_ins {bf : List Int} {L : List LblD} {p : Nat} {d : LblD} (hs : L.Pairwise (fun x y => leP bf x y = true)) (h1 : ∀ j (h : j < L.length), p ≤ j → ltP bf L[j] d = false) (h2 : p = 0 ∨ ∃ h : p - 1 < L.length, ltP bf L[p - 1] d = true) :
    (L.take p ++ d :: L.drop p).Pairwise (fun x y => leP bf x y = true) := by
  have hs' := List.pairwise_iff_getElem.1 hs
  have ht : ∀ y ∈ L.take p, leP bf y d = true := fun y hy => by
    obtain ⟨j, hj, rfl⟩ := List.getElem_of_mem hy
    rw [List.length_take] at hj
    rw [List.getElem_take]
    rcases h2 with h2 | ⟨hl, h2⟩
    · omega
    · unfold leP
      rw [Bool.not_eq_true']
      rcases Bool.eq_false_or_eq_true (ltP bf d (L[j]'(by omega))) with h | h
      · have h3 := (ltP_swo bf).trans _ _ _ h2 h
        rcases Nat.lt_or_ge j (p - 1) with hjp | hjp
        · have h4 := hs' j (p - 1) (by omega) hl hjp
          unfold leP at h4
          rw [h3] at h4; cases h4
        · have e : j = p - 1 := by omega
          subst e
          rw [(ltP_swo bf).irrefl] at h3; cases h3
      · exact h
  have hd : ∀ z ∈ L.drop p, leP bf d z = true := fun z hz => by
    obtain ⟨j, hj, rfl⟩ := List.getElem_of_mem hz
    rw [List.length_drop] at hj
    rw [List.getElem_drop]
    unfold leP
    rw [h1 (p + j) (by omega) (by omega)]; rfl
  rw [List.pairwise_append, List.pairwise_cons]
  refine ⟨hs.sublist (List.take_sublist _ _), ⟨hd, hs.sublist (List.drop_sublist _ _)⟩, fun y hy z hz => ?_⟩
  rcases List.mem_cons.1 hz with rfl | hz
  · exact ht y hy
  · have hyz : (L.take p ++ L.drop p).Pairwise (fun x y => leP bf x y = true) := by rw [List.take_append_drop]; exact hs
    exact (List.pairwise_append.1 hyz).2.2 y hy z hz
theorem gr_made {α : Type} {q : Nat} {V : VElem α} {T : TypeId} {lo : Nat} {w : World} {v : Value} (h : w.ownsRow lo T q v 0 []) : Gr q V T lo w v [] (fun _ => List.replicate q (.bool false)) (fun _ => []) :=
  ⟨h, fun _ => by simp, fun i h => absurd h (Nat.not_lt_zero _), fun i h => absurd h (Nat.not_lt_zero _), by simp⟩
/-- The numbers of the labels, in turn, as far as they have come. -/
structure OrdP (l : List LblD) (bf : List Int) (os : List Nat) (k : Nat) : Prop where
  len : os.length = k
  lt : ∀ i ∈ os, i < k
  srt : (labO l os).Pairwise (fun x y => leP bf x y = true)
  perm : (labO l os).Perm (l.take k)
theorem OrdP.zero (l : List LblD) (bf : List Int) : OrdP l bf [] 0 := ⟨rfl, (fun _ h => nomatch h), by simp [labO], by simp [labO]⟩
theorem OrdP.ins {l : List LblD} {bf : List Int} {os : List Nat} {k p : Nat} (h : OrdP l bf os k) (hk : k < l.length) (h1 : ∀ j (h : j < (labO l os).length), p ≤ j → ltP bf (labO l os)[j] l[k] = false) (h2 : p = 0 ∨ ∃ h : p - 1 < (labO l os).length, ltP bf (labO l os)[p - 1] l[k] = true) : OrdP l bf (os.take p ++ k :: os.drop p) (k + 1) := by
  refine ⟨?_, fun i hi => ?_, ?_, ?_⟩
  · have := h.len
    simp only [List.length_append, List.length_cons, List.length_take, List.length_drop]
    omega
  · rcases List.mem_append.1 hi with hi | hi
    · exact Nat.lt_succ_of_lt (h.lt i (List.mem_of_mem_take hi))
    · rcases List.mem_cons.1 hi with rfl | hi
      · exact Nat.lt_succ_self _
      · exact Nat.lt_succ_of_lt (h.lt i (List.mem_of_mem_drop hi))
  · rw [labO_ins, gtL_at hk]; exact ord_ins h.srt h1 h2
  · rw [labO_ins, gtL_at hk, List.take_succ_eq_append_getElem hk]
    exact (ins_perm (labO l os) p l[k]).trans (h.perm.append_right _)
theorem frB_take {s : List LblD} {d : LblD} {j : Nat} (h : j < s.length) : frB ((s.take (j + 1)).map rmOf) (rmOf d) = (frB ((s.take j).map rmOf) (rmOf d) && !ovB d s[j]) := by
  unfold frB
  rw [List.take_succ_eq_append_getElem h, List.map_append, List.all_append, List.map_singleton, List.all_cons, List.all_nil, Bool.and_true, mtB_ov]
theorem frB_pre {s : List LblD} {d : LblD} {j : Nat} (h : frB ((s.take j).map rmOf) (rmOf d) = false) : frB (s.map rmOf) (rmOf d) = false := by
  rw [← List.take_append_drop j s, List.map_append]
  unfold frB at *
  rw [List.all_append, h]; rfl
theorem plTo_mem {o : List LblD} {d : LblD} {s t : List LblD} (h : d ∈ plTo s t) (hs : ∀ e ∈ s, e ∈ o) (ht : ∀ e ∈ t, e ∈ o) : d ∈ o := by
  obtain ⟨r, h1, h2⟩ := plTo_sub t s
  rw [h1] at h
  exact (List.mem_append.1 h).elim (hs d) (fun h => ht d (h2.subset h))
theorem lbl_P {d : LblD} (h : lblK d = true) : LblP d := by
  obtain ⟨h0, h1, h2, h3, h5⟩ := lblK_out h
  refine ⟨?_, ?_, ?_, ?_, ?_, ?_⟩ <;> unfold In64 <;> omega
theorem lbls_nodup {l : List LblD} (hp : lblsP l) : l.Nodup := by
  rw [List.nodup_iff_pairwise_ne, List.pairwise_iff_getElem]
  intro i j hi hj hij e
  exact (hp.2 j hj).2 i hij (by rw [e])

/-- What an answer is: these numbers. -/
def IntOut (w : World) (l : List Int) (e : Ending) (w' : World) : Prop := ∃ a' c' bs', e = .returned (.slice a' l.length c') ∧ Ints w' a' l bs' ∧ Bel w w' ∧ ∀ x ∈ bs', w.heap.size ≤ x
set_option maxRecDepth 100000 in
set_option maxHeartbeats 3000000 in
theorem l8Place_any (a : Option Addr) (n c : Nat) (l : List LblD) (bs : List Nat) (ai : Option Addr) (ni ci : Nat) (bf : List Int) (bi : List Nat) (w : World) (hT : LblL w a l bs) (hn : l.length = n) (hI : Ints w ai bf bi) (hni : bf.length = ni) (hmi : ni ≤ 1048576) (hp : lblsP l) :
    Calls Try.prog 64 #[.slice a n c, .slice ai ni ci] w fun e w' => IntOut w (ascI ((plTo [] (ordQ bf l)).map (·.id))) e w' := by
  obtain ⟨ie, hie, hze, hse, hbe⟩ := info_parts infoIn
  obtain ⟨i0, hi0, hz0, hz1, hz2⟩ := info_parts infoLb
  have Hn : Hid (l.length = n) := hn
  have HP : Hid (lblsP l) := hp
  have hn5 : n ≤ 500 := by rw [← hn]; exact hp.1
  have HT0 : Hid (LblL w a l bs) := hT
  have HI0 : Hid (Ints w ai bf bi) := hI
  have HK : Hid (∀ i (h : i < l.length), lblK l[i] = true) := fun i h => (hp.2 i h).1
  clear hn hp hT hI
  go_enter Try.func64, Try.ntmps64
  go_wp2
  obtain ⟨W1, HW1⟩ : ∃ V, Hid (V = w.alloc (.cells #[] 3)) := ⟨_, (rfl : w.alloc (.cells #[] 3) = _)⟩
  have hB1 : Bel w W1 := by rw [HW1.out]; exact bel_alloc (Bel.refl _) _
  have hown1 : W1.ownsRow w.heap.size 3 1 (.slice (some ⟨w.heap.size, 0, none⟩) 0 0) (cstI []).length (intsV (cstI [])) := by rw [HW1.out]; exact World.ownsRow_made (e := 3) (size := 1) (base := w.heap.size) w #[] 0 (Nat.le_refl _) (by unfold maxLen; omega) (by rfl)
  rw [← HW1.out]
  go_loopw [5, 6] (fun ov iv wr => ∃ (k : Nat) (os : List Nat) (g oc : Nat), k ≤ n ∧ iv = .int .i64 k ∧ ov = .slice (some ⟨g, 0, none⟩) k oc ∧ k ≤ oc ∧ wr.ownsRow w.heap.size 3 1 (.slice (some ⟨g, 0, none⟩) k oc) (cstI os).length (intsV (cstI os)) ∧ OrdP l bf os k ∧ Bel w wr) (fun _ iv _ => n - (intOf iv).toNat)
  case atStart => exact ⟨0, [], w.heap.size, 0, Nat.zero_le _, rfl, rfl, Nat.le_refl _, hown1, OrdP.zero l bf, hB1⟩
  case round =>
    clear hown1 hB1 HW1
    obtain ⟨wo, rfl⟩ : ∃ V, V = wr := ⟨_, rfl⟩
    obtain ⟨k, os, g, oc, hk, rfl, rfl, hkc, hown, hord, hBr⟩ := hrel
    have HO : Hid (OrdP l bf os k) := hord
    have HOwn : Hid (wo.ownsRow w.heap.size 3 1 (.slice (some ⟨g, 0, none⟩) k oc) (cstI os).length (intsV (cstI os))) := hown
    clear hord hown
    by_cases hlt : k < n
    · have hltI : (k : Int) < (n : Int) := by omega
      have hkl : k < l.length := by rw [Hn.out]; exact hlt
      have hk0 : ¬ (k : Int) < 0 := by omega
      obtain ⟨ol, Hol⟩ : ∃ x, Hid (cstI os = x) := ⟨_, (rfl : cstI os = _)⟩
      have HolL : Hid (ol.length = k) := by rw [← Hol.out, cstI_len]; exact HO.out.len
      have HOin : Hid (∀ y ∈ ol, In64 y) := fun y hy => by
        rw [← Hol.out] at hy
        obtain ⟨i, hi, rfl⟩ := List.mem_map.1 hy
        have := HO.out.lt i hi
        unfold In64; omega
      have HOwn2 : Hid (wo.ownsRow w.heap.size 3 1 (.slice (some ⟨g, 0, none⟩) k oc) ol.length (intsV ol)) := by rw [← Hol.out]; exact HOwn.out
      have HIo : Hid (∃ bo, Ints wo (some ⟨g, 0, none⟩) ol bo) := by
        obtain ⟨a', c', bo, e, h⟩ := own_intsT HOwn2.out HOin.out
        injection e with e1 _ _
        subst e1
        exact ⟨bo, h⟩
      have HD : Hid (∀ w', Bel wo w' → ∃ b off, a = some ⟨b, off, none⟩ ∧ b < wo.heap.size ∧ ∀ i (h : i < l.length), lbC w' b (off + i * 6) l[i]) := fun w' hb => by
        obtain ⟨b, off, f, e, hbl, hx⟩ := (HT0.out.bel lblE hBr).out hkl
        refine ⟨b, off, e, hbl, fun i hi => ?_⟩
        obtain ⟨b', off', f', e', _, hx'⟩ := ((HT0.out.bel lblE hBr).bel lblE hb).out hi
        rw [e] at e'
        injection e' with e'; injection e' with e1 e2; subst e1; subst e2
        exact lbC_of (hx' i hi)
      obtain ⟨bl, loff, rfl, hbl, hcell0⟩ := HD.out wo (Bel.refl _)
      have HC : Hid (∀ w', Bel wo w' → ∀ i (h : i < l.length), lbC w' bl (loff + i * 6) l[i]) := fun w' hb => by
        obtain ⟨b', off', e, _, h⟩ := HD.out w' hb
        injection e with e; injection e with e1 e2; subst e1; subst e2
        exact h
      clear hcell0 HOwn
      go_upto_block 2 with fail
      go_cut [7] (fun t wx => ∃ p : Nat, p ≤ k ∧ t = .int .i64 p ∧ Hid ((∀ j (h : j < (labO l os).length), p ≤ j → ltP bf (labO l os)[j] l[k] = false) ∧ (p = 0 ∨ ∃ h : p - 1 < (labO l os).length, ltP bf (labO l os)[p - 1] l[k] = true)) ∧ Bel wo wx)
      case first =>
        go_wp2_with fail
        go_loopw [7] (fun av wx => ∃ p : Nat, p ≤ k ∧ av = .int .i64 p ∧ Hid (∀ j (h : j < (labO l os).length), p ≤ j → ltP bf (labO l os)[j] l[k] = false) ∧ Bel wo wx) (fun av _ => (intOf av).toNat)
        case atStart => exact ⟨k, Nat.le_refl _, rfl, (fun j h hj => absurd h (by rw [labO_len, HO.out.len]; omega) : ∀ j (h : j < (labO l os).length), k ≤ j → ltP bf (labO l os)[j] l[k] = false), Bel.refl _⟩
        case round =>
          obtain ⟨wx, rfl⟩ : ∃ V, V = wr := ⟨_, rfl⟩
          obtain ⟨p, hp, rfl, HB, hbx⟩ := hrel
          by_cases hp0 : p = 0
          · subst hp0
            go_wp2
            go_meet
            case rel => exact ⟨0, Nat.zero_le _, rfl, (⟨HB.out, .inl rfl⟩ : (∀ j (h : j < (labO l os).length), 0 ≤ j → ltP bf (labO l os)[j] l[k] = false) ∧ (0 = 0 ∨ ∃ h : 0 - 1 < (labO l os).length, ltP bf (labO l os)[0 - 1] l[k] = true)), hbx⟩
          · obtain ⟨q, hq⟩ : ∃ q, p = q + 1 := ⟨p - 1, by omega⟩
            have hpq : (p : Int) - 1 = (q : Int) := by omega
            have hp1 : (0 : Int) < (p : Int) := by omega
            have hqk : (q : Int) < (k : Int) := by omega
            have hq0 : ¬ (q : Int) < 0 := by omega
            have hqs : q < os.length := by rw [HO.out.len]; omega
            have hqo : q < ol.length := by rw [HolL.out]; omega
            obtain ⟨bo, hIo⟩ := HIo.out
            obtain ⟨g', o', fo, e', hgl, hxo⟩ := (hIo.bel intE hbx).out hqo
            injection e' with e'; injection e' with e1 e2; subst e1; subst e2
            have co := (hxo q hqo).2.2
            rw [Nat.mul_one, Nat.zero_add] at co
            obtain ⟨z, Hz⟩ : ∃ z, Hid (os[q] = z) := ⟨_, (rfl : os[q] = _)⟩
            have hoz : ol[q] = (z : Int) := by
              have := Hz.out
              have e := Hol.out
              subst e
              simp only [cstI, List.getElem_map]
              rw [this]
            rw [hoz] at co
            have hzk : z < k := by rw [← Hz.out]; exact HO.out.lt _ (List.getElem_mem hqs)
            have hzl : z < l.length := by omega
            have hzI : (z : Int) < (n : Int) := by omega
            have hzn0 : ¬ (z : Int) < 0 := by omega
            have hLq : Hid (∀ h : q < (labO l os).length, (labO l os)[q] = l[z]) := fun h => by
              simp only [labO, List.getElem_map]
              rw [Hz.out, gtL_at hzl]
            have kx := HK.out z hzl
            have kd := HK.out k hkl
            have cx := HC.out wx hbx z hzl
            obtain ⟨x, Hx⟩ : ∃ x, Hid (l[z] = x) := ⟨_, (rfl : l[z] = _)⟩
            obtain ⟨d, Hd⟩ : ∃ x, Hid (l[k] = x) := ⟨_, (rfl : l[k] = _)⟩
            rw [Hx.out] at cx kx hLq
            rw [Hd.out] at kd HB
            obtain ⟨c0, c1, c2, c3, c4, c5⟩ := cx
            clear hxo hoz
            obtain ⟨U, HU⟩ : ∃ V, Hid (V = wx.alloc (.cells #[.int .i64 x.id, .int .i64 x.x, .int .i64 x.y, .int .i64 x.wd, .int .i64 x.ht, .int .i64 x.rk] 33)) := ⟨_, (rfl : wx.alloc (.cells #[.int .i64 x.id, .int .i64 x.x, .int .i64 x.y, .int .i64 x.wd, .int .i64 x.ht, .int .i64 x.rk] 33) = _)⟩
            have hbU : Bel wx U := by rw [HU.out]; exact bel_alloc (Bel.refl _) _
            have XU : Blk U wx.heap.size [.int .i64 x.id, .int .i64 x.x, .int .i64 x.y, .int .i64 x.wd, .int .i64 x.ht, .int .i64 x.rk] := by rw [HU.out]; exact Blk.new wx [.int .i64 x.id, .int .i64 x.x, .int .i64 x.y, .int .i64 x.wd, .int .i64 x.ht, .int .i64 x.rk] _
            go_upto_region 8 with fail
            rw [← HU.out]
            have v0 : U.cell? ⟨wx.heap.size, 0, none⟩ = some (.int .i64 x.id) := XU.cell 0 (by simp)
            have v1 : U.cell? ⟨wx.heap.size, 1, none⟩ = some (.int .i64 x.x) := XU.cell 1 (by simp)
            have v2 : U.cell? ⟨wx.heap.size, 2, none⟩ = some (.int .i64 x.y) := XU.cell 2 (by simp)
            have v3 : U.cell? ⟨wx.heap.size, 3, none⟩ = some (.int .i64 x.wd) := XU.cell 3 (by simp)
            have v4 : U.cell? ⟨wx.heap.size, 4, none⟩ = some (.int .i64 x.ht) := XU.cell 4 (by simp)
            have v5 : U.cell? ⟨wx.heap.size, 5, none⟩ = some (.int .i64 x.rk) := XU.cell 5 (by simp)
            have vl := XU.lt
            go_wp2_with fail
            have hbU2 := bel_step hbx hbU
            refine (l8Rank_any x ai ni ci bf bi _ ((HI0.out.bel intE hBr).bel intE hbU2) hni hmi (lblK_out kx).2.2.2.2).mono ?_
            rintro e w1 ⟨rfl, hb1⟩
            have hb1o := bel_step hbU2 hb1
            obtain ⟨d0, d1, d2, d3, d4, d5⟩ := HC.out w1 hb1o k hkl
            rw [Hd.out] at d0 d1 d2 d3 d4 d5
            clear c0 c1 c2 c3 c4 c5 co v0 v1 v2 v3 v4 v5 vl
            go_wp2_with fail
            refine (l8Rank_any d ai ni ci bf bi _ ((HI0.out.bel intE hBr).bel intE hb1o) hni hmi (lblK_out kd).2.2.2.2).mono ?_
            rintro e w2 ⟨rfl, hb2⟩
            have hb2o := bel_step hb1o hb2
            have X2 := (XU.bel hb1).bel hb2
            have u0 : w2.cell? ⟨wx.heap.size, 0, none⟩ = some (.int .i64 x.id) := X2.cell 0 (by simp)
            have ul := X2.lt
            obtain ⟨f0, _⟩ := HC.out w2 hb2o k hkl
            rw [Hd.out] at f0
            have HLt : Hid (ltP bf x d = true ↔ rkB bf d < rkB bf x ∨ (rkB bf x = rkB bf d ∧ x.id < d.id)) := ltP_iff
            obtain ⟨rx, Hrx⟩ : ∃ r, Hid (rkB bf x = r) := ⟨_, (rfl : rkB bf x = _)⟩
            obtain ⟨rd, Hrd⟩ : ∃ r, Hid (rkB bf d = r) := ⟨_, (rfl : rkB bf d = _)⟩
            rw [Hrx.out, Hrd.out] at HLt ⊢
            have HYes : Hid (ltP bf x d = true → (∀ j (h : j < (labO l os).length), p ≤ j → ltP bf (labO l os)[j] l[k] = false) ∧ (p = 0 ∨ ∃ h : p - 1 < (labO l os).length, ltP bf (labO l os)[p - 1] l[k] = true)) := fun h => by
              rw [Hd.out]
              refine ⟨HB.out, .inr ⟨by rw [labO_len]; omega, ?_⟩⟩
              have e : p - 1 = q := by omega
              simp only [e]
              rw [hLq.out (by rw [labO_len]; omega)]
              exact h
            have HNo : Hid (ltP bf x d = false → ∀ j (h : j < (labO l os).length), q ≤ j → ltP bf (labO l os)[j] l[k] = false) := fun h j hj hqj => by
              rw [Hd.out]
              by_cases e : j = q
              · subst e; rw [hLq.out hj]; exact h
              · exact HB.out j hj (by omega)
            clear d0 d1 d2 d3 d4 d5 X2 hLq HB XU HU hbU hb1 hb2
            by_cases h1 : rd < rx
            · have HF := HYes.out (HLt.out.2 (.inl h1))
              have HF' : Hid _ := HF
              go_wp2
              go_quiet (fail)
              go_wp2
              go_meet
              case rel => exact ⟨p, hp, by rw [hq]; go_num, HF', bel_drewN hb2o _⟩
            · by_cases h2 : rx = rd
              · have h2b : (rx == rd) = true := by simp [h2]
                by_cases h3 : x.id < d.id
                · have HF := HYes.out (HLt.out.2 (.inr ⟨h2, h3⟩))
                  have HF' : Hid _ := HF
                  go_wp2
                  go_quiet (fail)
                  go_wp2
                  go_meet
                  case rel => exact ⟨p, hp, by rw [hq]; go_num, HF', bel_drewN hb2o _⟩
                · have HN := HNo.out (by have := mt HLt.out.1 (fun h => h.elim h1 (fun h => h3 h.2)); simpa using this)
                  have HN' : Hid _ := HN
                  go_wp2
                  go_quiet (fail)
                  go_wp2
                  go_roundw
                  case rel => exact ⟨q, by omega, rfl, HN', bel_drewN hb2o _⟩
                  case measure => simp [intOf]; omega
              · have h2b : (rx == rd) = false := by simpa using h2
                have HN := HNo.out (by have := mt HLt.out.1 (fun h => h.elim h1 (fun h => h2 h.1)); simpa using this)
                have HN' : Hid _ := HN
                have h1b : decide (rd < rx) = false := by simpa using h1
                clear h1 h2 HLt
                go_upto_region 10 with fail
                refine wp_region_noPanic ?_
                refine wp_region_held_drew (S := fun _ => True) (by kernel_rfl) trivial (fun hHeld => ?_)
                have hbD : Bel w2 w2.drew := (Bel.refl _).drew
                generalize w2.drew = wD at hbD ⊢
                refine tk 0 hHeld ?_; refine tk 1 hHeld ?_; refine tk 2 hHeld ?_; refine tk 3 hHeld ?_; refine tk 4 hHeld ?_; refine tk 5 hHeld ?_; refine tk 6 hHeld ?_; refine tk 7 hHeld ?_
                refine sk 8 hHeld ?_; refine sk 9 hHeld ?_; refine sk 10 hHeld ?_; refine sk 11 hHeld ?_; refine sk 12 hHeld ?_; refine sk 13 hHeld ?_; refine sk 14 hHeld ?_; refine sk 15 hHeld ?_
                refine tk 16 hHeld ?_; refine tk 17 hHeld ?_
                refine wpAnyH_done (by kernel_rfl) ?_ _
                refine NoPanic.normal ?_
                go_wp2
                go_roundw
                case rel => exact ⟨q, by omega, rfl, HN', bel_step hb2o hbD⟩
                case measure => simp [intOf]; omega
      case rest =>
        obtain ⟨p, hp, rfl, HF, hbc⟩ := hcut
        have HIx : Hid (In64 (k : Int)) := (by unfold In64; omega : In64 (k : Int))
        have hwc : w.heap.size ≤ wc.heap.size := Nat.le_trans hBr.out.size hbc.out.size
        have HOut : Hid (∀ v3 wC, wC.ownsRow wc.heap.size 3 1 v3 ((([] ++ ol.take p) ++ [(k : Int)]) ++ ol.drop p).length (intsV ((([] ++ ol.take p) ++ [(k : Int)]) ++ ol.drop p)) → Bel wc wC → ∃ (k' : Nat) (os' : List Nat) (g' oc' : Nat), k' ≤ n ∧ Value.int .i64 ((k : Int) + 1) = .int .i64 k' ∧ v3 = .slice (some ⟨g', 0, none⟩) k' oc' ∧ k' ≤ oc' ∧ wC.ownsRow w.heap.size 3 1 (.slice (some ⟨g', 0, none⟩) k' oc') (cstI os').length (intsV (cstI os')) ∧ OrdP l bf os' k' ∧ Bel w wC) := fun v3 wC h hb => by
          have e : (([] ++ ol.take p) ++ [(k : Int)]) ++ ol.drop p = cstI (os.take p ++ k :: os.drop p) := by rw [cstI_ins, Hol.out, List.nil_append]
          rw [e] at h
          have hO' := HO.out.ins (p := p) hkl HF.out.1 HF.out.2
          have hl : (cstI (os.take p ++ k :: os.drop p)).length = k + 1 := by rw [cstI_len]; exact hO'.len
          obtain ⟨g', oc', rfl, hoc⟩ := own_someT h (by rw [hl]; omega)
          rw [hl] at hoc
          refine ⟨k + 1, _, g', oc', by omega, by go_num, by rw [hl], hoc, ?_, hO', bel_step (bel_step hBr hbc) hb⟩
          obtain ⟨q1, q2⟩ := h
          rw [hl] at q1 q2 ⊢
          exact ⟨q1, q2.imp id fun ⟨g1, cap, cur, r1, r2, r3⟩ => ⟨g1, cap, cur, r1, Nat.le_trans hwc r2, r3⟩⟩
        obtain ⟨bo, hIo⟩ := HIo.out
        have hIc := hIo.bel intE hbc
        obtain ⟨bs1, hbs1⟩ := ints_take hIc p
        obtain ⟨bs2, hbs2⟩ := ints_drop hIc p
        have hpc : (p : Int) ≤ (oc : Int) := by omega
        have hpk : (p : Int) ≤ (k : Int) := by omega
        have HT : Hid ((∀ w', Bel wc w' → Ints w' (some ⟨g, 0, none⟩) (ol.take p) bs1) ∧ (∀ w', Bel wc w' → Ints w' (some ⟨g, p, none⟩) (ol.drop p) bs2)) := ⟨fun w' h => hbs1.bel intE h, fun w' h => by have h1 := hbs2.bel intE h; rw [Nat.zero_add] at h1; exact h1⟩
        have hn := HolL.out
        clear hbs1 hbs2 hIc
        by_cases hpk2 : p < k
        · have hpoc : (p : Int) < (oc : Int) := by omega
          go_upto_region 12 with fail
          refine wp_region_noPanic ?_
          refine wp_region_held_drew (S := (fun w' => Bel wc w')) (by kernel_rfl) (Bel.refl _).drew (fun hHeld => ?_)
          generalize wc.drew = wD at hHeld ⊢
          refine tk 1 hHeld ?_; refine tk 2 hHeld ?_; refine tk 3 hHeld ?_; refine tk 5 hHeld ?_; refine tk 8 hHeld ?_; refine tk 9 hHeld ?_
          refine tkv 10 (.slice (some ⟨g, p, none⟩) (k - p) (oc - p)) hHeld ?_ (hy := by (intro w hSw; (try dsimp only at hSw); go_simp; first | done | (intro h; omega)))
          have HsD : Hid (wc.heap.size ≤ wD.heap.size) := hHeld.out.size
          refine rd2 0 6 (fun K hK => ?_) (fun K hK => ?_)
          · go_simp
            refine hK.out _ _ (bel_alloc hHeld _) (fun hHeld' => ?_)
            clear hK K hHeld
            have hHeld := hHeld'
            clear hHeld'
            try simp only [Act.put, List.setIfInBounds_toArray, List.set_cons_zero, List.set_cons_succ]
            have hown0 : (wD.alloc (.cells #[] 3)).ownsRow wc.heap.size 3 1 (.slice (some ⟨wD.heap.size, 0, none⟩) 0 0) ([] : List Int).length (intsV []) := World.ownsRow_made (e := 3) (size := 1) (base := wc.heap.size) wD #[] 0 HsD.out (by unfold maxLen; omega) (by rfl)
            refine rd2 4 6 (fun K hK => ?_) (fun K hK => ?_)
            · refine step_appI _ rfl _ _ _ rfl wc.heap.size 3 ie Try.underlying102 hie hze hse hbe (.slice (some ⟨wD.heap.size, 0, none⟩) 0 0) ([]) (by rfl) hown0 (some ⟨g, 0, none⟩) (p) _ (ol.take p) _ (by rfl) (HT.out.1 _ hHeld) (by rw [List.length_take]; omega) (by simp; omega) hHeld.out.size ?_
              intro v1 wA hv1 hv1g
              refine hK.out _ _ (bel_grow hHeld hv1g (fun k e => by have := World.ownsRow.lt hown0 k e; omega)) (fun hHeld' => ?_)
              clear hK K hHeld
              have hHeld := hHeld'
              clear hHeld'
              try simp only [Act.put, List.setIfInBounds_toArray, List.set_cons_zero, List.set_cons_succ]
              refine rd1 6 (fun K hK => ?_)
              go_simp
              refine hK.out _ _ (bel_alloc hHeld _) (fun hHeld' => ?_)
              clear hK K hHeld
              have hHeld := hHeld'
              clear hHeld'
              try simp only [Act.put, List.setIfInBounds_toArray, List.set_cons_zero, List.set_cons_succ]
              have hv1b := World.ownsRow.alloc hv1 (.cells #[.int .i64 (k : Int)] 3)
              have hcx := (Blk.new wA [.int .i64 (k : Int)] 3).cell 0 (by simp)
              refine rd1 7 (fun K hK => ?_)
              refine step_appI _ rfl _ _ _ rfl wc.heap.size 3 ie Try.underlying102 hie hze hse hbe (v1) ([] ++ ol.take p) (by rfl) hv1b (some ⟨wA.heap.size, 0, none⟩) (1) _ ([(k : Int)]) _ (by rfl) (ints_lit1 hcx HIx.out) (rfl) (by simp; omega) hHeld.out.size ?_
              intro v2 wB hv2 hv2g
              refine hK.out _ _ (bel_grow hHeld hv2g (fun k e => by have := World.ownsRow.lt hv1b k e; omega)) (fun hHeld' => ?_)
              clear hK K hHeld
              have hHeld := hHeld'
              clear hHeld'
              try simp only [Act.put, List.setIfInBounds_toArray, List.set_cons_zero, List.set_cons_succ]
              clear hcx
              refine rd1 11 (fun K hK => ?_)
              refine step_appI _ rfl _ _ _ rfl wc.heap.size 3 ie Try.underlying102 hie hze hse hbe (v2) (([] ++ ol.take p) ++ [(k : Int)]) (by rfl) hv2 ((some ⟨g, p, none⟩)) (k - p) _ (ol.drop p) _ (by rfl) (HT.out.2 _ hHeld) (by rw [List.length_drop]; omega) (by simp; omega) hHeld.out.size ?_
              intro v3 wC hv3 hv3g
              refine hK.out _ _ (bel_grow hHeld hv3g (fun k e => by have := World.ownsRow.lt hv2 k e; omega)) (fun hHeld' => ?_)
              clear hK K hHeld
              have hHeld := hHeld'
              clear hHeld'
              try simp only [Act.put, List.setIfInBounds_toArray, List.set_cons_zero, List.set_cons_succ]
              refine rd1 12 (fun K hK => ?_)
              go_simp
              refine hK.out _ _ (hHeld) (fun hHeld' => ?_)
              clear hK K hHeld
              have hHeld := hHeld'
              clear hHeld'
              try simp only [Act.put, List.setIfInBounds_toArray, List.set_cons_zero, List.set_cons_succ]
              have HZ : Hid _ := HOut.out v3 wC hv3 hHeld
              refine wpAnyH_done (by kernel_rfl) ?_ _
              refine NoPanic.normal ?_
              clear hv1g hv2g hv3g hv3 hv2
              go_wp2
              go_roundw
              case rel => exact HZ.out
              case measure => simp [intOf]; omega
            · go_simp
              refine hK.out _ _ (bel_alloc hHeld _) (fun hHeld' => ?_)
              clear hK K hHeld
              have hHeld := hHeld'
              clear hHeld'
              try simp only [Act.put, List.setIfInBounds_toArray, List.set_cons_zero, List.set_cons_succ]
              have hown0b := World.ownsRow.alloc hown0 (.cells #[.int .i64 (k : Int)] 3)
              have hX : Blk ((wD.alloc (.cells #[] 3)).alloc (.cells #[.int .i64 (k : Int)] 3)) (wD.heap.size + 1) [.int .i64 (k : Int)] := Blk.new1 wD _ [.int .i64 (k : Int)] _
              have hne : some (wD.heap.size + 1) ≠ some wD.heap.size := fun e => by injection e with e; omega
              refine rd1 4 (fun K hK => ?_)
              refine step_appI _ rfl _ _ _ rfl wc.heap.size 3 ie Try.underlying102 hie hze hse hbe (.slice (some ⟨wD.heap.size, 0, none⟩) 0 0) ([]) (by rfl) hown0b (some ⟨g, 0, none⟩) (p) _ (ol.take p) _ (by rfl) (HT.out.1 _ hHeld) (by rw [List.length_take]; omega) (by simp; omega) hHeld.out.size ?_
              intro v1 wA hv1 hv1g
              refine hK.out _ _ (bel_grow hHeld hv1g (fun k e => by have := World.ownsRow.lt hown0b k e; omega)) (fun hHeld' => ?_)
              clear hK K hHeld
              have hHeld := hHeld'
              clear hHeld'
              try simp only [Act.put, List.setIfInBounds_toArray, List.set_cons_zero, List.set_cons_succ]
              have hX1 := hX.kept hv1g hne
              have hcx := hX1.cell 0 (by simp)
              refine rd1 7 (fun K hK => ?_)
              refine step_appI _ rfl _ _ _ rfl wc.heap.size 3 ie Try.underlying102 hie hze hse hbe (v1) ([] ++ ol.take p) (by rfl) hv1 (some ⟨wD.heap.size + 1, 0, none⟩) (1) _ ([(k : Int)]) _ (by rfl) (ints_lit1 hcx HIx.out) (rfl) (by simp; omega) hHeld.out.size ?_
              intro v2 wB hv2 hv2g
              refine hK.out _ _ (bel_grow hHeld hv2g (fun k e => by have := World.ownsRow.lt hv1 k e; omega)) (fun hHeld' => ?_)
              clear hK K hHeld
              have hHeld := hHeld'
              clear hHeld'
              try simp only [Act.put, List.setIfInBounds_toArray, List.set_cons_zero, List.set_cons_succ]
              clear hcx
              refine rd1 11 (fun K hK => ?_)
              refine step_appI _ rfl _ _ _ rfl wc.heap.size 3 ie Try.underlying102 hie hze hse hbe (v2) (([] ++ ol.take p) ++ [(k : Int)]) (by rfl) hv2 ((some ⟨g, p, none⟩)) (k - p) _ (ol.drop p) _ (by rfl) (HT.out.2 _ hHeld) (by rw [List.length_drop]; omega) (by simp; omega) hHeld.out.size ?_
              intro v3 wC hv3 hv3g
              refine hK.out _ _ (bel_grow hHeld hv3g (fun k e => by have := World.ownsRow.lt hv2 k e; omega)) (fun hHeld' => ?_)
              clear hK K hHeld
              have hHeld := hHeld'
              clear hHeld'
              try simp only [Act.put, List.setIfInBounds_toArray, List.set_cons_zero, List.set_cons_succ]
              refine rd1 12 (fun K hK => ?_)
              go_simp
              refine hK.out _ _ (hHeld) (fun hHeld' => ?_)
              clear hK K hHeld
              have hHeld := hHeld'
              clear hHeld'
              try simp only [Act.put, List.setIfInBounds_toArray, List.set_cons_zero, List.set_cons_succ]
              have HZ : Hid _ := HOut.out v3 wC hv3 hHeld
              refine wpAnyH_done (by kernel_rfl) ?_ _
              refine NoPanic.normal ?_
              clear hv1g hv2g hv3g hv3 hv2
              go_wp2
              go_roundw
              case rel => exact HZ.out
              case measure => simp [intOf]; omega
          · go_simp
            refine hK.out _ _ (bel_alloc hHeld _) (fun hHeld' => ?_)
            clear hK K hHeld
            have hHeld := hHeld'
            clear hHeld'
            try simp only [Act.put, List.setIfInBounds_toArray, List.set_cons_zero, List.set_cons_succ]
            have hX : Blk (wD.alloc (.cells #[.int .i64 (k : Int)] 3)) wD.heap.size [.int .i64 (k : Int)] := Blk.new wD [.int .i64 (k : Int)] _
            have hwl : wD.heap.size < (wD.alloc (.cells #[.int .i64 (k : Int)] 3)).heap.size := by simp
            have hDl : wc.heap.size ≤ (wD.alloc (.cells #[.int .i64 (k : Int)] 3)).heap.size := by have := HsD.out; omega
            generalize HwD2 : wD.alloc (.cells #[.int .i64 (k : Int)] 3) = wD2 at *
            refine rd1 0 (fun K hK => ?_)
            go_simp
            refine hK.out _ _ (bel_alloc hHeld _) (fun hHeld' => ?_)
            clear hK K hHeld
            have hHeld := hHeld'
            clear hHeld'
            try simp only [Act.put, List.setIfInBounds_toArray, List.set_cons_zero, List.set_cons_succ]
            have hown0 : (wD2.alloc (.cells #[] 3)).ownsRow wc.heap.size 3 1 (.slice (some ⟨wD2.heap.size, 0, none⟩) 0 0) ([] : List Int).length (intsV []) := World.ownsRow_made (e := 3) (size := 1) (base := wc.heap.size) wD2 #[] 0 hDl (by unfold maxLen; omega) (by rfl)
            have hX0 := hX.bel (bel_alloc (Bel.refl wD2) (.cells #[] 3))
            have hne : some wD.heap.size ≠ some wD2.heap.size := fun e => by injection e with e; omega
            refine rd1 4 (fun K hK => ?_)
            refine step_appI _ rfl _ _ _ rfl wc.heap.size 3 ie Try.underlying102 hie hze hse hbe (.slice (some ⟨wD2.heap.size, 0, none⟩) 0 0) ([]) (by rfl) hown0 (some ⟨g, 0, none⟩) (p) _ (ol.take p) _ (by rfl) (HT.out.1 _ hHeld) (by rw [List.length_take]; omega) (by simp; omega) hHeld.out.size ?_
            intro v1 wA hv1 hv1g
            refine hK.out _ _ (bel_grow hHeld hv1g (fun k e => by have := World.ownsRow.lt hown0 k e; omega)) (fun hHeld' => ?_)
            clear hK K hHeld
            have hHeld := hHeld'
            clear hHeld'
            try simp only [Act.put, List.setIfInBounds_toArray, List.set_cons_zero, List.set_cons_succ]
            have hX1 := hX0.kept hv1g hne
            have hcx := hX1.cell 0 (by simp)
            refine rd1 7 (fun K hK => ?_)
            refine step_appI _ rfl _ _ _ rfl wc.heap.size 3 ie Try.underlying102 hie hze hse hbe (v1) ([] ++ ol.take p) (by rfl) hv1 (some ⟨wD.heap.size, 0, none⟩) (1) _ ([(k : Int)]) _ (by rfl) (ints_lit1 hcx HIx.out) (rfl) (by simp; omega) hHeld.out.size ?_
            intro v2 wB hv2 hv2g
            refine hK.out _ _ (bel_grow hHeld hv2g (fun k e => by have := World.ownsRow.lt hv1 k e; omega)) (fun hHeld' => ?_)
            clear hK K hHeld
            have hHeld := hHeld'
            clear hHeld'
            try simp only [Act.put, List.setIfInBounds_toArray, List.set_cons_zero, List.set_cons_succ]
            clear hcx
            refine rd1 11 (fun K hK => ?_)
            refine step_appI _ rfl _ _ _ rfl wc.heap.size 3 ie Try.underlying102 hie hze hse hbe (v2) (([] ++ ol.take p) ++ [(k : Int)]) (by rfl) hv2 ((some ⟨g, p, none⟩)) (k - p) _ (ol.drop p) _ (by rfl) (HT.out.2 _ hHeld) (by rw [List.length_drop]; omega) (by simp; omega) hHeld.out.size ?_
            intro v3 wC hv3 hv3g
            refine hK.out _ _ (bel_grow hHeld hv3g (fun k e => by have := World.ownsRow.lt hv2 k e; omega)) (fun hHeld' => ?_)
            clear hK K hHeld
            have hHeld := hHeld'
            clear hHeld'
            try simp only [Act.put, List.setIfInBounds_toArray, List.set_cons_zero, List.set_cons_succ]
            refine rd1 12 (fun K hK => ?_)
            go_simp
            refine hK.out _ _ (hHeld) (fun hHeld' => ?_)
            clear hK K hHeld
            have hHeld := hHeld'
            clear hHeld'
            try simp only [Act.put, List.setIfInBounds_toArray, List.set_cons_zero, List.set_cons_succ]
            have HZ : Hid _ := HOut.out v3 wC hv3 hHeld
            refine wpAnyH_done (by kernel_rfl) ?_ _
            refine NoPanic.normal ?_
            clear hv1g hv2g hv3g hv3 hv2
            go_wp2
            go_roundw
            case rel => exact HZ.out
            case measure => simp [intOf]; omega
        · have e : k = p := by omega
          subst e
          have Hlast : Hid (∀ w' ad, Ints w' ad (ol.drop k) []) := fun w' ad => by rw [List.drop_eq_nil_of_le (by omega)]; exact Sl.nil
          by_cases hcp : oc = k
          · have hcp := hcp.symm
            subst hcp
            go_upto_region 12 with fail
            refine wp_region_noPanic ?_
            refine wp_region_held_drew (S := (fun w' => Bel wc w')) (by kernel_rfl) (Bel.refl _).drew (fun hHeld => ?_)
            generalize wc.drew = wD at hHeld ⊢
            refine tk 1 hHeld ?_; refine tk 2 hHeld ?_; refine tk 3 hHeld ?_; refine tk 5 hHeld ?_; refine tk 8 hHeld ?_; refine tk 9 hHeld ?_
            refine tk 10 hHeld ?_
            have HsD : Hid (wc.heap.size ≤ wD.heap.size) := hHeld.out.size
            refine rd2 0 6 (fun K hK => ?_) (fun K hK => ?_)
            · go_simp
              refine hK.out _ _ (bel_alloc hHeld _) (fun hHeld' => ?_)
              clear hK K hHeld
              have hHeld := hHeld'
              clear hHeld'
              try simp only [Act.put, List.setIfInBounds_toArray, List.set_cons_zero, List.set_cons_succ]
              have hown0 : (wD.alloc (.cells #[] 3)).ownsRow wc.heap.size 3 1 (.slice (some ⟨wD.heap.size, 0, none⟩) 0 0) ([] : List Int).length (intsV []) := World.ownsRow_made (e := 3) (size := 1) (base := wc.heap.size) wD #[] 0 HsD.out (by unfold maxLen; omega) (by rfl)
              refine rd2 4 6 (fun K hK => ?_) (fun K hK => ?_)
              · refine step_appI _ rfl _ _ _ rfl wc.heap.size 3 ie Try.underlying102 hie hze hse hbe (.slice (some ⟨wD.heap.size, 0, none⟩) 0 0) ([]) (by rfl) hown0 (some ⟨g, 0, none⟩) (k) _ (ol.take k) _ (by rfl) (HT.out.1 _ hHeld) (by rw [List.length_take]; omega) (by simp; omega) hHeld.out.size ?_
                intro v1 wA hv1 hv1g
                refine hK.out _ _ (bel_grow hHeld hv1g (fun k e => by have := World.ownsRow.lt hown0 k e; omega)) (fun hHeld' => ?_)
                clear hK K hHeld
                have hHeld := hHeld'
                clear hHeld'
                try simp only [Act.put, List.setIfInBounds_toArray, List.set_cons_zero, List.set_cons_succ]
                refine rd1 6 (fun K hK => ?_)
                go_simp
                refine hK.out _ _ (bel_alloc hHeld _) (fun hHeld' => ?_)
                clear hK K hHeld
                have hHeld := hHeld'
                clear hHeld'
                try simp only [Act.put, List.setIfInBounds_toArray, List.set_cons_zero, List.set_cons_succ]
                have hv1b := World.ownsRow.alloc hv1 (.cells #[.int .i64 (k : Int)] 3)
                have hcx := (Blk.new wA [.int .i64 (k : Int)] 3).cell 0 (by simp)
                refine rd1 7 (fun K hK => ?_)
                refine step_appI _ rfl _ _ _ rfl wc.heap.size 3 ie Try.underlying102 hie hze hse hbe (v1) ([] ++ ol.take k) (by rfl) hv1b (some ⟨wA.heap.size, 0, none⟩) (1) _ ([(k : Int)]) _ (by rfl) (ints_lit1 hcx HIx.out) (rfl) (by simp; omega) hHeld.out.size ?_
                intro v2 wB hv2 hv2g
                refine hK.out _ _ (bel_grow hHeld hv2g (fun k e => by have := World.ownsRow.lt hv1b k e; omega)) (fun hHeld' => ?_)
                clear hK K hHeld
                have hHeld := hHeld'
                clear hHeld'
                try simp only [Act.put, List.setIfInBounds_toArray, List.set_cons_zero, List.set_cons_succ]
                clear hcx
                refine rd1 11 (fun K hK => ?_)
                refine step_appI _ rfl _ _ _ rfl wc.heap.size 3 ie Try.underlying102 hie hze hse hbe (v2) (([] ++ ol.take k) ++ [(k : Int)]) (by rfl) hv2 (_) (0) _ (ol.drop k) _ (by rfl) (Hlast.out _ _) (by rw [List.length_drop]; omega) (by simp; omega) hHeld.out.size ?_
                intro v3 wC hv3 hv3g
                refine hK.out _ _ (bel_grow hHeld hv3g (fun k e => by have := World.ownsRow.lt hv2 k e; omega)) (fun hHeld' => ?_)
                clear hK K hHeld
                have hHeld := hHeld'
                clear hHeld'
                try simp only [Act.put, List.setIfInBounds_toArray, List.set_cons_zero, List.set_cons_succ]
                refine rd1 12 (fun K hK => ?_)
                go_simp
                refine hK.out _ _ (hHeld) (fun hHeld' => ?_)
                clear hK K hHeld
                have hHeld := hHeld'
                clear hHeld'
                try simp only [Act.put, List.setIfInBounds_toArray, List.set_cons_zero, List.set_cons_succ]
                have HZ : Hid _ := HOut.out v3 wC hv3 hHeld
                refine wpAnyH_done (by kernel_rfl) ?_ _
                refine NoPanic.normal ?_
                clear hv1g hv2g hv3g hv3 hv2
                go_wp2
                go_roundw
                case rel => exact HZ.out
                case measure => simp [intOf]; omega
              · go_simp
                refine hK.out _ _ (bel_alloc hHeld _) (fun hHeld' => ?_)
                clear hK K hHeld
                have hHeld := hHeld'
                clear hHeld'
                try simp only [Act.put, List.setIfInBounds_toArray, List.set_cons_zero, List.set_cons_succ]
                have hown0b := World.ownsRow.alloc hown0 (.cells #[.int .i64 (k : Int)] 3)
                have hX : Blk ((wD.alloc (.cells #[] 3)).alloc (.cells #[.int .i64 (k : Int)] 3)) (wD.heap.size + 1) [.int .i64 (k : Int)] := Blk.new1 wD _ [.int .i64 (k : Int)] _
                have hne : some (wD.heap.size + 1) ≠ some wD.heap.size := fun e => by injection e with e; omega
                refine rd1 4 (fun K hK => ?_)
                refine step_appI _ rfl _ _ _ rfl wc.heap.size 3 ie Try.underlying102 hie hze hse hbe (.slice (some ⟨wD.heap.size, 0, none⟩) 0 0) ([]) (by rfl) hown0b (some ⟨g, 0, none⟩) (k) _ (ol.take k) _ (by rfl) (HT.out.1 _ hHeld) (by rw [List.length_take]; omega) (by simp; omega) hHeld.out.size ?_
                intro v1 wA hv1 hv1g
                refine hK.out _ _ (bel_grow hHeld hv1g (fun k e => by have := World.ownsRow.lt hown0b k e; omega)) (fun hHeld' => ?_)
                clear hK K hHeld
                have hHeld := hHeld'
                clear hHeld'
                try simp only [Act.put, List.setIfInBounds_toArray, List.set_cons_zero, List.set_cons_succ]
                have hX1 := hX.kept hv1g hne
                have hcx := hX1.cell 0 (by simp)
                refine rd1 7 (fun K hK => ?_)
                refine step_appI _ rfl _ _ _ rfl wc.heap.size 3 ie Try.underlying102 hie hze hse hbe (v1) ([] ++ ol.take k) (by rfl) hv1 (some ⟨wD.heap.size + 1, 0, none⟩) (1) _ ([(k : Int)]) _ (by rfl) (ints_lit1 hcx HIx.out) (rfl) (by simp; omega) hHeld.out.size ?_
                intro v2 wB hv2 hv2g
                refine hK.out _ _ (bel_grow hHeld hv2g (fun k e => by have := World.ownsRow.lt hv1 k e; omega)) (fun hHeld' => ?_)
                clear hK K hHeld
                have hHeld := hHeld'
                clear hHeld'
                try simp only [Act.put, List.setIfInBounds_toArray, List.set_cons_zero, List.set_cons_succ]
                clear hcx
                refine rd1 11 (fun K hK => ?_)
                refine step_appI _ rfl _ _ _ rfl wc.heap.size 3 ie Try.underlying102 hie hze hse hbe (v2) (([] ++ ol.take k) ++ [(k : Int)]) (by rfl) hv2 (_) (0) _ (ol.drop k) _ (by rfl) (Hlast.out _ _) (by rw [List.length_drop]; omega) (by simp; omega) hHeld.out.size ?_
                intro v3 wC hv3 hv3g
                refine hK.out _ _ (bel_grow hHeld hv3g (fun k e => by have := World.ownsRow.lt hv2 k e; omega)) (fun hHeld' => ?_)
                clear hK K hHeld
                have hHeld := hHeld'
                clear hHeld'
                try simp only [Act.put, List.setIfInBounds_toArray, List.set_cons_zero, List.set_cons_succ]
                refine rd1 12 (fun K hK => ?_)
                go_simp
                refine hK.out _ _ (hHeld) (fun hHeld' => ?_)
                clear hK K hHeld
                have hHeld := hHeld'
                clear hHeld'
                try simp only [Act.put, List.setIfInBounds_toArray, List.set_cons_zero, List.set_cons_succ]
                have HZ : Hid _ := HOut.out v3 wC hv3 hHeld
                refine wpAnyH_done (by kernel_rfl) ?_ _
                refine NoPanic.normal ?_
                clear hv1g hv2g hv3g hv3 hv2
                go_wp2
                go_roundw
                case rel => exact HZ.out
                case measure => simp [intOf]; omega
            · go_simp
              refine hK.out _ _ (bel_alloc hHeld _) (fun hHeld' => ?_)
              clear hK K hHeld
              have hHeld := hHeld'
              clear hHeld'
              try simp only [Act.put, List.setIfInBounds_toArray, List.set_cons_zero, List.set_cons_succ]
              have hX : Blk (wD.alloc (.cells #[.int .i64 (k : Int)] 3)) wD.heap.size [.int .i64 (k : Int)] := Blk.new wD [.int .i64 (k : Int)] _
              have hwl : wD.heap.size < (wD.alloc (.cells #[.int .i64 (k : Int)] 3)).heap.size := by simp
              have hDl : wc.heap.size ≤ (wD.alloc (.cells #[.int .i64 (k : Int)] 3)).heap.size := by have := HsD.out; omega
              generalize HwD2 : wD.alloc (.cells #[.int .i64 (k : Int)] 3) = wD2 at *
              refine rd1 0 (fun K hK => ?_)
              go_simp
              refine hK.out _ _ (bel_alloc hHeld _) (fun hHeld' => ?_)
              clear hK K hHeld
              have hHeld := hHeld'
              clear hHeld'
              try simp only [Act.put, List.setIfInBounds_toArray, List.set_cons_zero, List.set_cons_succ]
              have hown0 : (wD2.alloc (.cells #[] 3)).ownsRow wc.heap.size 3 1 (.slice (some ⟨wD2.heap.size, 0, none⟩) 0 0) ([] : List Int).length (intsV []) := World.ownsRow_made (e := 3) (size := 1) (base := wc.heap.size) wD2 #[] 0 hDl (by unfold maxLen; omega) (by rfl)
              have hX0 := hX.bel (bel_alloc (Bel.refl wD2) (.cells #[] 3))
              have hne : some wD.heap.size ≠ some wD2.heap.size := fun e => by injection e with e; omega
              refine rd1 4 (fun K hK => ?_)
              refine step_appI _ rfl _ _ _ rfl wc.heap.size 3 ie Try.underlying102 hie hze hse hbe (.slice (some ⟨wD2.heap.size, 0, none⟩) 0 0) ([]) (by rfl) hown0 (some ⟨g, 0, none⟩) (k) _ (ol.take k) _ (by rfl) (HT.out.1 _ hHeld) (by rw [List.length_take]; omega) (by simp; omega) hHeld.out.size ?_
              intro v1 wA hv1 hv1g
              refine hK.out _ _ (bel_grow hHeld hv1g (fun k e => by have := World.ownsRow.lt hown0 k e; omega)) (fun hHeld' => ?_)
              clear hK K hHeld
              have hHeld := hHeld'
              clear hHeld'
              try simp only [Act.put, List.setIfInBounds_toArray, List.set_cons_zero, List.set_cons_succ]
              have hX1 := hX0.kept hv1g hne
              have hcx := hX1.cell 0 (by simp)
              refine rd1 7 (fun K hK => ?_)
              refine step_appI _ rfl _ _ _ rfl wc.heap.size 3 ie Try.underlying102 hie hze hse hbe (v1) ([] ++ ol.take k) (by rfl) hv1 (some ⟨wD.heap.size, 0, none⟩) (1) _ ([(k : Int)]) _ (by rfl) (ints_lit1 hcx HIx.out) (rfl) (by simp; omega) hHeld.out.size ?_
              intro v2 wB hv2 hv2g
              refine hK.out _ _ (bel_grow hHeld hv2g (fun k e => by have := World.ownsRow.lt hv1 k e; omega)) (fun hHeld' => ?_)
              clear hK K hHeld
              have hHeld := hHeld'
              clear hHeld'
              try simp only [Act.put, List.setIfInBounds_toArray, List.set_cons_zero, List.set_cons_succ]
              clear hcx
              refine rd1 11 (fun K hK => ?_)
              refine step_appI _ rfl _ _ _ rfl wc.heap.size 3 ie Try.underlying102 hie hze hse hbe (v2) (([] ++ ol.take k) ++ [(k : Int)]) (by rfl) hv2 (_) (0) _ (ol.drop k) _ (by rfl) (Hlast.out _ _) (by rw [List.length_drop]; omega) (by simp; omega) hHeld.out.size ?_
              intro v3 wC hv3 hv3g
              refine hK.out _ _ (bel_grow hHeld hv3g (fun k e => by have := World.ownsRow.lt hv2 k e; omega)) (fun hHeld' => ?_)
              clear hK K hHeld
              have hHeld := hHeld'
              clear hHeld'
              try simp only [Act.put, List.setIfInBounds_toArray, List.set_cons_zero, List.set_cons_succ]
              refine rd1 12 (fun K hK => ?_)
              go_simp
              refine hK.out _ _ (hHeld) (fun hHeld' => ?_)
              clear hK K hHeld
              have hHeld := hHeld'
              clear hHeld'
              try simp only [Act.put, List.setIfInBounds_toArray, List.set_cons_zero, List.set_cons_succ]
              have HZ : Hid _ := HOut.out v3 wC hv3 hHeld
              refine wpAnyH_done (by kernel_rfl) ?_ _
              refine NoPanic.normal ?_
              clear hv1g hv2g hv3g hv3 hv2
              go_wp2
              go_roundw
              case rel => exact HZ.out
              case measure => simp [intOf]; omega
          · have hpc2 : (k : Int) < (oc : Int) := by omega
            go_upto_region 12 with fail
            refine wp_region_noPanic ?_
            refine wp_region_held_drew (S := (fun w' => Bel wc w')) (by kernel_rfl) (Bel.refl _).drew (fun hHeld => ?_)
            generalize wc.drew = wD at hHeld ⊢
            refine tk 1 hHeld ?_; refine tk 2 hHeld ?_; refine tk 3 hHeld ?_; refine tk 5 hHeld ?_; refine tk 8 hHeld ?_; refine tk 9 hHeld ?_
            refine tkv 10 (.slice (some ⟨g, k, none⟩) (k - k) (oc - k)) hHeld ?_ (hy := by (intro w hSw; (try dsimp only at hSw); go_simp; first | done | (intro h; omega)))
            have HsD : Hid (wc.heap.size ≤ wD.heap.size) := hHeld.out.size
            refine rd2 0 6 (fun K hK => ?_) (fun K hK => ?_)
            · go_simp
              refine hK.out _ _ (bel_alloc hHeld _) (fun hHeld' => ?_)
              clear hK K hHeld
              have hHeld := hHeld'
              clear hHeld'
              try simp only [Act.put, List.setIfInBounds_toArray, List.set_cons_zero, List.set_cons_succ]
              have hown0 : (wD.alloc (.cells #[] 3)).ownsRow wc.heap.size 3 1 (.slice (some ⟨wD.heap.size, 0, none⟩) 0 0) ([] : List Int).length (intsV []) := World.ownsRow_made (e := 3) (size := 1) (base := wc.heap.size) wD #[] 0 HsD.out (by unfold maxLen; omega) (by rfl)
              refine rd2 4 6 (fun K hK => ?_) (fun K hK => ?_)
              · refine step_appI _ rfl _ _ _ rfl wc.heap.size 3 ie Try.underlying102 hie hze hse hbe (.slice (some ⟨wD.heap.size, 0, none⟩) 0 0) ([]) (by rfl) hown0 (some ⟨g, 0, none⟩) (k) _ (ol.take k) _ (by rfl) (HT.out.1 _ hHeld) (by rw [List.length_take]; omega) (by simp; omega) hHeld.out.size ?_
                intro v1 wA hv1 hv1g
                refine hK.out _ _ (bel_grow hHeld hv1g (fun k e => by have := World.ownsRow.lt hown0 k e; omega)) (fun hHeld' => ?_)
                clear hK K hHeld
                have hHeld := hHeld'
                clear hHeld'
                try simp only [Act.put, List.setIfInBounds_toArray, List.set_cons_zero, List.set_cons_succ]
                refine rd1 6 (fun K hK => ?_)
                go_simp
                refine hK.out _ _ (bel_alloc hHeld _) (fun hHeld' => ?_)
                clear hK K hHeld
                have hHeld := hHeld'
                clear hHeld'
                try simp only [Act.put, List.setIfInBounds_toArray, List.set_cons_zero, List.set_cons_succ]
                have hv1b := World.ownsRow.alloc hv1 (.cells #[.int .i64 (k : Int)] 3)
                have hcx := (Blk.new wA [.int .i64 (k : Int)] 3).cell 0 (by simp)
                refine rd1 7 (fun K hK => ?_)
                refine step_appI _ rfl _ _ _ rfl wc.heap.size 3 ie Try.underlying102 hie hze hse hbe (v1) ([] ++ ol.take k) (by rfl) hv1b (some ⟨wA.heap.size, 0, none⟩) (1) _ ([(k : Int)]) _ (by rfl) (ints_lit1 hcx HIx.out) (rfl) (by simp; omega) hHeld.out.size ?_
                intro v2 wB hv2 hv2g
                refine hK.out _ _ (bel_grow hHeld hv2g (fun k e => by have := World.ownsRow.lt hv1b k e; omega)) (fun hHeld' => ?_)
                clear hK K hHeld
                have hHeld := hHeld'
                clear hHeld'
                try simp only [Act.put, List.setIfInBounds_toArray, List.set_cons_zero, List.set_cons_succ]
                clear hcx
                refine rd1 11 (fun K hK => ?_)
                refine step_appI _ rfl _ _ _ rfl wc.heap.size 3 ie Try.underlying102 hie hze hse hbe (v2) (([] ++ ol.take k) ++ [(k : Int)]) (by rfl) hv2 ((some ⟨g, k, none⟩)) (0) _ (ol.drop k) _ (by rfl) (HT.out.2 _ hHeld) (by rw [List.length_drop]; omega) (by simp; omega) hHeld.out.size ?_
                intro v3 wC hv3 hv3g
                refine hK.out _ _ (bel_grow hHeld hv3g (fun k e => by have := World.ownsRow.lt hv2 k e; omega)) (fun hHeld' => ?_)
                clear hK K hHeld
                have hHeld := hHeld'
                clear hHeld'
                try simp only [Act.put, List.setIfInBounds_toArray, List.set_cons_zero, List.set_cons_succ]
                refine rd1 12 (fun K hK => ?_)
                go_simp
                refine hK.out _ _ (hHeld) (fun hHeld' => ?_)
                clear hK K hHeld
                have hHeld := hHeld'
                clear hHeld'
                try simp only [Act.put, List.setIfInBounds_toArray, List.set_cons_zero, List.set_cons_succ]
                have HZ : Hid _ := HOut.out v3 wC hv3 hHeld
                refine wpAnyH_done (by kernel_rfl) ?_ _
                refine NoPanic.normal ?_
                clear hv1g hv2g hv3g hv3 hv2
                go_wp2
                go_roundw
                case rel => exact HZ.out
                case measure => simp [intOf]; omega
              · go_simp
                refine hK.out _ _ (bel_alloc hHeld _) (fun hHeld' => ?_)
                clear hK K hHeld
                have hHeld := hHeld'
                clear hHeld'
                try simp only [Act.put, List.setIfInBounds_toArray, List.set_cons_zero, List.set_cons_succ]
                have hown0b := World.ownsRow.alloc hown0 (.cells #[.int .i64 (k : Int)] 3)
                have hX : Blk ((wD.alloc (.cells #[] 3)).alloc (.cells #[.int .i64 (k : Int)] 3)) (wD.heap.size + 1) [.int .i64 (k : Int)] := Blk.new1 wD _ [.int .i64 (k : Int)] _
                have hne : some (wD.heap.size + 1) ≠ some wD.heap.size := fun e => by injection e with e; omega
                refine rd1 4 (fun K hK => ?_)
                refine step_appI _ rfl _ _ _ rfl wc.heap.size 3 ie Try.underlying102 hie hze hse hbe (.slice (some ⟨wD.heap.size, 0, none⟩) 0 0) ([]) (by rfl) hown0b (some ⟨g, 0, none⟩) (k) _ (ol.take k) _ (by rfl) (HT.out.1 _ hHeld) (by rw [List.length_take]; omega) (by simp; omega) hHeld.out.size ?_
                intro v1 wA hv1 hv1g
                refine hK.out _ _ (bel_grow hHeld hv1g (fun k e => by have := World.ownsRow.lt hown0b k e; omega)) (fun hHeld' => ?_)
                clear hK K hHeld
                have hHeld := hHeld'
                clear hHeld'
                try simp only [Act.put, List.setIfInBounds_toArray, List.set_cons_zero, List.set_cons_succ]
                have hX1 := hX.kept hv1g hne
                have hcx := hX1.cell 0 (by simp)
                refine rd1 7 (fun K hK => ?_)
                refine step_appI _ rfl _ _ _ rfl wc.heap.size 3 ie Try.underlying102 hie hze hse hbe (v1) ([] ++ ol.take k) (by rfl) hv1 (some ⟨wD.heap.size + 1, 0, none⟩) (1) _ ([(k : Int)]) _ (by rfl) (ints_lit1 hcx HIx.out) (rfl) (by simp; omega) hHeld.out.size ?_
                intro v2 wB hv2 hv2g
                refine hK.out _ _ (bel_grow hHeld hv2g (fun k e => by have := World.ownsRow.lt hv1 k e; omega)) (fun hHeld' => ?_)
                clear hK K hHeld
                have hHeld := hHeld'
                clear hHeld'
                try simp only [Act.put, List.setIfInBounds_toArray, List.set_cons_zero, List.set_cons_succ]
                clear hcx
                refine rd1 11 (fun K hK => ?_)
                refine step_appI _ rfl _ _ _ rfl wc.heap.size 3 ie Try.underlying102 hie hze hse hbe (v2) (([] ++ ol.take k) ++ [(k : Int)]) (by rfl) hv2 ((some ⟨g, k, none⟩)) (0) _ (ol.drop k) _ (by rfl) (HT.out.2 _ hHeld) (by rw [List.length_drop]; omega) (by simp; omega) hHeld.out.size ?_
                intro v3 wC hv3 hv3g
                refine hK.out _ _ (bel_grow hHeld hv3g (fun k e => by have := World.ownsRow.lt hv2 k e; omega)) (fun hHeld' => ?_)
                clear hK K hHeld
                have hHeld := hHeld'
                clear hHeld'
                try simp only [Act.put, List.setIfInBounds_toArray, List.set_cons_zero, List.set_cons_succ]
                refine rd1 12 (fun K hK => ?_)
                go_simp
                refine hK.out _ _ (hHeld) (fun hHeld' => ?_)
                clear hK K hHeld
                have hHeld := hHeld'
                clear hHeld'
                try simp only [Act.put, List.setIfInBounds_toArray, List.set_cons_zero, List.set_cons_succ]
                have HZ : Hid _ := HOut.out v3 wC hv3 hHeld
                refine wpAnyH_done (by kernel_rfl) ?_ _
                refine NoPanic.normal ?_
                clear hv1g hv2g hv3g hv3 hv2
                go_wp2
                go_roundw
                case rel => exact HZ.out
                case measure => simp [intOf]; omega
            · go_simp
              refine hK.out _ _ (bel_alloc hHeld _) (fun hHeld' => ?_)
              clear hK K hHeld
              have hHeld := hHeld'
              clear hHeld'
              try simp only [Act.put, List.setIfInBounds_toArray, List.set_cons_zero, List.set_cons_succ]
              have hX : Blk (wD.alloc (.cells #[.int .i64 (k : Int)] 3)) wD.heap.size [.int .i64 (k : Int)] := Blk.new wD [.int .i64 (k : Int)] _
              have hwl : wD.heap.size < (wD.alloc (.cells #[.int .i64 (k : Int)] 3)).heap.size := by simp
              have hDl : wc.heap.size ≤ (wD.alloc (.cells #[.int .i64 (k : Int)] 3)).heap.size := by have := HsD.out; omega
              generalize HwD2 : wD.alloc (.cells #[.int .i64 (k : Int)] 3) = wD2 at *
              refine rd1 0 (fun K hK => ?_)
              go_simp
              refine hK.out _ _ (bel_alloc hHeld _) (fun hHeld' => ?_)
              clear hK K hHeld
              have hHeld := hHeld'
              clear hHeld'
              try simp only [Act.put, List.setIfInBounds_toArray, List.set_cons_zero, List.set_cons_succ]
              have hown0 : (wD2.alloc (.cells #[] 3)).ownsRow wc.heap.size 3 1 (.slice (some ⟨wD2.heap.size, 0, none⟩) 0 0) ([] : List Int).length (intsV []) := World.ownsRow_made (e := 3) (size := 1) (base := wc.heap.size) wD2 #[] 0 hDl (by unfold maxLen; omega) (by rfl)
              have hX0 := hX.bel (bel_alloc (Bel.refl wD2) (.cells #[] 3))
              have hne : some wD.heap.size ≠ some wD2.heap.size := fun e => by injection e with e; omega
              refine rd1 4 (fun K hK => ?_)
              refine step_appI _ rfl _ _ _ rfl wc.heap.size 3 ie Try.underlying102 hie hze hse hbe (.slice (some ⟨wD2.heap.size, 0, none⟩) 0 0) ([]) (by rfl) hown0 (some ⟨g, 0, none⟩) (k) _ (ol.take k) _ (by rfl) (HT.out.1 _ hHeld) (by rw [List.length_take]; omega) (by simp; omega) hHeld.out.size ?_
              intro v1 wA hv1 hv1g
              refine hK.out _ _ (bel_grow hHeld hv1g (fun k e => by have := World.ownsRow.lt hown0 k e; omega)) (fun hHeld' => ?_)
              clear hK K hHeld
              have hHeld := hHeld'
              clear hHeld'
              try simp only [Act.put, List.setIfInBounds_toArray, List.set_cons_zero, List.set_cons_succ]
              have hX1 := hX0.kept hv1g hne
              have hcx := hX1.cell 0 (by simp)
              refine rd1 7 (fun K hK => ?_)
              refine step_appI _ rfl _ _ _ rfl wc.heap.size 3 ie Try.underlying102 hie hze hse hbe (v1) ([] ++ ol.take k) (by rfl) hv1 (some ⟨wD.heap.size, 0, none⟩) (1) _ ([(k : Int)]) _ (by rfl) (ints_lit1 hcx HIx.out) (rfl) (by simp; omega) hHeld.out.size ?_
              intro v2 wB hv2 hv2g
              refine hK.out _ _ (bel_grow hHeld hv2g (fun k e => by have := World.ownsRow.lt hv1 k e; omega)) (fun hHeld' => ?_)
              clear hK K hHeld
              have hHeld := hHeld'
              clear hHeld'
              try simp only [Act.put, List.setIfInBounds_toArray, List.set_cons_zero, List.set_cons_succ]
              clear hcx
              refine rd1 11 (fun K hK => ?_)
              refine step_appI _ rfl _ _ _ rfl wc.heap.size 3 ie Try.underlying102 hie hze hse hbe (v2) (([] ++ ol.take k) ++ [(k : Int)]) (by rfl) hv2 ((some ⟨g, k, none⟩)) (0) _ (ol.drop k) _ (by rfl) (HT.out.2 _ hHeld) (by rw [List.length_drop]; omega) (by simp; omega) hHeld.out.size ?_
              intro v3 wC hv3 hv3g
              refine hK.out _ _ (bel_grow hHeld hv3g (fun k e => by have := World.ownsRow.lt hv2 k e; omega)) (fun hHeld' => ?_)
              clear hK K hHeld
              have hHeld := hHeld'
              clear hHeld'
              try simp only [Act.put, List.setIfInBounds_toArray, List.set_cons_zero, List.set_cons_succ]
              refine rd1 12 (fun K hK => ?_)
              go_simp
              refine hK.out _ _ (hHeld) (fun hHeld' => ?_)
              clear hK K hHeld
              have hHeld := hHeld'
              clear hHeld'
              try simp only [Act.put, List.setIfInBounds_toArray, List.set_cons_zero, List.set_cons_succ]
              have HZ : Hid _ := HOut.out v3 wC hv3 hHeld
              refine wpAnyH_done (by kernel_rfl) ?_ _
              refine NoPanic.normal ?_
              clear hv1g hv2g hv3g hv3 hv2
              go_wp2
              go_roundw
              case rel => exact HZ.out
              case measure => simp [intOf]; omega
    · have e : k = n := by omega
      subst e
      have hltI : ¬ (k : Int) < (k : Int) := by omega
      have HE : Hid (labO l os = ordQ bf l) := ord_uniq HP.out (by have := HO.out.perm; rw [List.take_of_length_le (by rw [Hn.out]; exact Nat.le_refl _)] at this; exact this) HO.out.srt
      have hosl : os.length = k := HO.out.len
      obtain ⟨ol, Hol⟩ : ∃ x, Hid (cstI os = x) := ⟨_, (rfl : cstI os = _)⟩
      have HolL : Hid (ol.length = k) := by rw [← Hol.out, cstI_len]; exact HO.out.len
      have HIo : Hid (∃ bo, Ints wo (some ⟨g, 0, none⟩) ol bo) := by
        have h := HOwn.out
        rw [Hol.out] at h
        have hl := HolL.out
        have h2 : wo.ownsRow w.heap.size 3 1 (.slice (some ⟨g, 0, none⟩) k oc) ol.length (intsV ol) := h
        obtain ⟨a', c', bo, e, h⟩ := own_intsT h2 (fun y hy => by
          rw [← Hol.out] at hy
          obtain ⟨i, hi, rfl⟩ := List.mem_map.1 hy
          have := HO.out.lt i hi
          unfold In64; omega)
        injection e with e1 _ _
        subst e1
        exact ⟨bo, h⟩
      obtain ⟨o, Ho⟩ : ∃ o, Hid (ordQ bf l = o) := ⟨_, (rfl : ordQ bf l = _)⟩
      have HOm : Hid (∀ d ∈ o, d ∈ l) := fun d hd => (ordQ_perm bf l).mem_iff.1 (by rw [Ho.out]; exact hd)
      have HOn : Hid o.Nodup := by rw [← Ho.out]; exact (ordQ_perm bf l).nodup_iff.2 (lbls_nodup HP.out)
      have HOl : Hid (o.length = k) := by rw [← Ho.out, (ordQ_perm bf l).length_eq, Hn.out]; exact rfl
      have HOk : Hid (∀ i (h : i < os.length) (h2 : i < o.length), ∃ h3 : os[i] < l.length, o[i] = l[os[i]]) := fun i h h2 => by
        have h3 : os[i] < l.length := by rw [Hn.out]; exact HO.out.lt _ (List.getElem_mem h)
        refine ⟨h3, ?_⟩
        have e := HE.out.trans Ho.out
        subst e
        simp only [labO, List.getElem_map]
        exact gtL_at h3
      obtain ⟨W2, HW2⟩ : ∃ V, Hid (V = (wo.alloc (.cells #[] 33)).alloc (.cells #[] 2)) := ⟨_, (rfl : (wo.alloc (.cells #[] 33)).alloc (.cells #[] 2) = _)⟩
      have hb2 : Bel wo W2 := by rw [HW2.out]; exact bel_alloc (bel_alloc (Bel.refl _) _) _
      have HG0 : Hid (Gr 6 (flatV LblP lblCs) 33 wo.heap.size W2 (.slice (some ⟨wo.heap.size, 0, none⟩) 0 0) [] (fun _ => List.replicate 6 (.bool false)) (fun _ => [])) := by
        rw [HW2.out]
        exact gr_made ((World.ownsRow_made (e := 33) (size := 6) (base := wo.heap.size) wo #[] 0 (Nat.le_refl _) (by unfold maxLen; omega) (by rfl)).alloc _)
      have HO0 : Hid (OwnI wo.heap.size W2 (.slice (some ⟨wo.heap.size + 1, 0, none⟩) 0 0) []) := by
        rw [HW2.out]
        have h := World.ownsRow_made (e := 2) (size := 1) (base := wo.heap.size) (wo.alloc (.cells #[] 33)) #[] 0 (by simp) (by unfold maxLen; omega) (by rfl)
        have e : (wo.alloc (.cells #[] 33)).heap.size = wo.heap.size + 1 := by simp
        rw [e] at h
        exact h
      clear HOwn
      go_upto_region 15 with fail
      rw [← HW2.out]
      go_wp2_with fail
      go_loopw [11, 12, 13] (fun sv ov iv wy => ∃ (i : Nat) (s : List LblD) (sa : Option Addr) (sc : Nat) (R : Nat → List Value) (O : List Int) (gb gc : Nat), i ≤ k ∧ iv = .int .i64 i ∧ sv = .slice sa s.length sc ∧ Gr 6 (flatV LblP lblCs) 33 wo.heap.size wy (.slice sa s.length sc) s R (fun _ => []) ∧ ov = .slice (some ⟨gb, 0, none⟩) O.length gc ∧ O.length ≤ gc ∧ OwnI wo.heap.size wy (.slice (some ⟨gb, 0, none⟩) O.length gc) O ∧ O.Perm (s.map (·.id)) ∧ O.Pairwise (· < ·) ∧ s.length ≤ i ∧ (∀ d ∈ s, d ∈ o.take i) ∧ plTo [] o = plTo s (o.drop i) ∧ Bel wo wy) (fun _ _ iv _ => k - (intOf iv).toNat)
      case atStart => exact ⟨0, [], some ⟨wo.heap.size, 0, none⟩, 0, _, [], wo.heap.size + 1, 0, Nat.zero_le _, rfl, rfl, HG0.out, rfl, Nat.le_refl _, HO0.out, List.Perm.refl _, List.Pairwise.nil, Nat.le_refl _, (fun _ h => nomatch h), by simp, hb2⟩
      case round =>
        clear HG0 HO0 HW2 hb2
        obtain ⟨wy, rfl⟩ : ∃ V, V = wr := ⟨_, rfl⟩
        obtain ⟨i, s, sa, sc, R, O, gb, gc, hi, rfl, rfl, hG, rfl, hOc, hO, hPm, hPw, hsl, hsm, hsp, hby⟩ := hrel
        have HG : Hid (Gr 6 (flatV LblP lblCs) 33 wo.heap.size wy (.slice sa s.length sc) s R (fun _ => [])) := hG
        have HOw : Hid (OwnI wo.heap.size wy (.slice (some ⟨gb, 0, none⟩) O.length gc) O) := hO
        have HPm : Hid (O.Perm (s.map (·.id))) := hPm
        have HPw : Hid (O.Pairwise (· < ·)) := hPw
        have Hsm : Hid (∀ d ∈ s, d ∈ o.take i) := hsm
        have Hsp : Hid (plTo [] o = plTo s (o.drop i)) := hsp
        have HOls : Hid (O.length = s.length) := by rw [hPm.length_eq, List.length_map]; exact rfl
        clear hG hO hPm hPw hsm hsp
        by_cases hlt2 : i < k
        · have hi2 : (i : Int) < (k : Int) := by omega
          have hin0 : ¬ (i : Int) < 0 := by omega
          have hios : i < os.length := by rw [hosl]; exact hlt2
          have hio : i < o.length := by rw [HOl.out]; exact hlt2
          have hiol : i < ol.length := by rw [HolL.out]; exact hlt2
          obtain ⟨bo, hIo⟩ := HIo.out
          obtain ⟨g', o', fo, e', hgl, hxo⟩ := (hIo.bel intE hby).out hiol
          injection e' with e'; injection e' with e1 e2; subst e1; subst e2
          have co := (hxo i hiol).2.2
          rw [Nat.mul_one, Nat.zero_add] at co
          obtain ⟨z, Hz⟩ : ∃ z, Hid (os[i] = z) := ⟨_, (rfl : os[i] = _)⟩
          have hoz : ol[i] = (z : Int) := by
            have := Hz.out
            have e := Hol.out
            subst e
            simp only [cstI, List.getElem_map]
            rw [this]
          rw [hoz] at co
          obtain ⟨hzl', hoi⟩ := HOk.out i hios hio
          have hzl : z < l.length := by rw [← Hz.out]; exact hzl'
          have hoi2 : o[i] = l[z] := by
            rw [hoi]
            have := Hz.out
            subst this
            rfl
          have hzk : z < k := by rw [← Hn.out]; exact hzl
          have hzI : (z : Int) < (k : Int) := by omega
          have hzn0 : ¬ (z : Int) < 0 := by omega
          have hkd := HK.out z hzl
          obtain ⟨b, off, f, rfl, hbl, hx⟩ := ((HT0.out.bel lblE hBr).bel lblE hby).out hzl
          obtain ⟨c0, c1, c2, c3, c4, c5⟩ := lbC_of (hx z hzl)
          have hst := plTo_step (s := s) hio
          obtain ⟨d, Hd⟩ : ∃ d, Hid (l[z] = d) := ⟨_, (rfl : l[z] = _)⟩
          rw [hoi2] at hst
          rw [Hd.out] at c0 c1 c2 c3 c4 c5 hkd hst hoi2
          have Hst : Hid (plTo s (o.drop i) = if frB (s.map rmOf) (rmOf d) = true then plTo (s ++ [d]) (o.drop (i + 1)) else plTo s (o.drop (i + 1))) := hst
          have Hod : Hid (o[i] = d) := hoi2
          clear hx hst hoz hxo hoi hoi2 hzl'
          obtain ⟨U, HU⟩ : ∃ V, Hid (V = wy.alloc (.cells #[.int .i64 d.id, .int .i64 d.x, .int .i64 d.y, .int .i64 d.wd, .int .i64 d.ht, .int .i64 d.rk] 33)) := ⟨_, (rfl : wy.alloc (.cells #[.int .i64 d.id, .int .i64 d.x, .int .i64 d.y, .int .i64 d.wd, .int .i64 d.ht, .int .i64 d.rk] 33) = _)⟩
          have hbU : Bel wy U := by rw [HU.out]; exact bel_alloc (Bel.refl _) _
          have XU : Blk U wy.heap.size [.int .i64 d.id, .int .i64 d.x, .int .i64 d.y, .int .i64 d.wd, .int .i64 d.ht, .int .i64 d.rk] := by rw [HU.out]; exact Blk.new wy [.int .i64 d.id, .int .i64 d.x, .int .i64 d.y, .int .i64 d.wd, .int .i64 d.ht, .int .i64 d.rk] _
          go_upto_region 19 with fail
          rw [← HU.out]
          have hyU := bel_step hby hbU
          have HX : Hid (∀ w', Bel U w' → w'.cell? ⟨wy.heap.size, 0, none⟩ = some (.int .i64 d.id) ∧ w'.cell? ⟨wy.heap.size, 1, none⟩ = some (.int .i64 d.x) ∧ w'.cell? ⟨wy.heap.size, 2, none⟩ = some (.int .i64 d.y) ∧ w'.cell? ⟨wy.heap.size, 3, none⟩ = some (.int .i64 d.wd) ∧ w'.cell? ⟨wy.heap.size, 4, none⟩ = some (.int .i64 d.ht) ∧ w'.cell? ⟨wy.heap.size, 5, none⟩ = some (.int .i64 d.rk) ∧ wy.heap.size < w'.heap.size) := fun w' h => ⟨(XU.bel h).cell 0 (by simp), (XU.bel h).cell 1 (by simp), (XU.bel h).cell 2 (by simp), (XU.bel h).cell 3 (by simp), (XU.bel h).cell 4 (by simp), (XU.bel h).cell 5 (by simp), (XU.bel h).lt⟩
          have HGU : Hid (Gr 6 (flatV LblP lblCs) 33 wo.heap.size U (.slice sa s.length sc) s R (fun _ => [])) := HG.out.bel lblF.stays hbU
          have HsK : Hid (∀ d ∈ s, lblK d = true) := fun e he => by
            obtain ⟨j, hj, rfl⟩ := List.getElem_of_mem (HOm.out e (List.mem_of_mem_take (Hsm.out e he)))
            exact HK.out j hj
          clear c0 c1 c2 c3 c4 c5 co
          go_upto_block 6 with fail
          go_cut [15] (fun t wx => t = .bool (frB (s.map rmOf) (rmOf d)) ∧ Bel U wx)
          case first =>
            go_wp2_with fail
            go_loopw [15, 16] (fun fv jv wx => ∃ (j : Nat) (fb : Bool), j ≤ s.length ∧ jv = .int .i64 j ∧ fv = .bool fb ∧ fb = frB ((s.take j).map rmOf) (rmOf d) ∧ Bel U wx) (fun _ jv _ => s.length - (intOf jv).toNat)
            case atStart => exact ⟨0, true, Nat.zero_le _, rfl, rfl, rfl, Bel.refl _⟩
            case round =>
              obtain ⟨wx, rfl⟩ : ∃ V, V = wr := ⟨_, rfl⟩
              obtain ⟨j, fb, hj, rfl, rfl, hfb, hbx⟩ := hrel
              have Hfb : Hid (fb = frB ((s.take j).map rmOf) (rmOf d)) := hfb
              clear hfb
              by_cases hjs : j < s.length
              · have hjI : (j : Int) < (s.length : Int) := by omega
                have hj0 : ¬ (j : Int) < 0 := by omega
                cases fb
                · have HF : Hid (frB (s.map rmOf) (rmOf d) = false) := frB_pre Hfb.out.symm
                  go_wp2
                  go_meet
                  case rel => exact ⟨by rw [HF.out], hbx⟩
                · obtain ⟨sa', sc', bs', ev, S1, _⟩ := Gr.out lblF.stays (HGU.out.bel lblF.stays hbx)
                  injection ev with e1 _ e3
                  subst e1; subst e3
                  obtain ⟨b2, off2, f2, rfl, hb2, hx2⟩ := S1.out hjs
                  obtain ⟨c0, c1, c2, c3, c4, c5⟩ := lbC_of (hx2 j hjs)
                  have kx := HsK.out s[j] (List.getElem_mem hjs)
                  have HFt : Hid (frB ((s.take (j + 1)).map rmOf) (rmOf d) = !ovB d s[j]) := by rw [frB_take hjs, ← Hfb.out, Bool.true_and]; exact rfl
                  obtain ⟨x, Hx⟩ : ∃ x, Hid (s[j] = x) := ⟨_, (rfl : s[j] = _)⟩
                  rw [Hx.out] at c0 c1 c2 c3 c4 c5 kx HFt
                  obtain ⟨r, Hr⟩ : ∃ r, Hid (ovB d x = r) := ⟨_, (rfl : ovB d x = _)⟩
                  rw [Hr.out] at HFt
                  have hR : ∀ w', Bel wx w' → w'.cell? ⟨wy.heap.size, 0, none⟩ = some (.int .i64 d.id) ∧ w'.cell? ⟨wy.heap.size, 1, none⟩ = some (.int .i64 d.x) ∧ w'.cell? ⟨wy.heap.size, 2, none⟩ = some (.int .i64 d.y) ∧ w'.cell? ⟨wy.heap.size, 3, none⟩ = some (.int .i64 d.wd) ∧ w'.cell? ⟨wy.heap.size, 4, none⟩ = some (.int .i64 d.ht) ∧ w'.cell? ⟨wy.heap.size, 5, none⟩ = some (.int .i64 d.rk) ∧ w'.cell? ⟨b2, off2 + j * 6, none⟩ = some (.int .i64 x.id) ∧ w'.cell? ⟨b2, off2 + j * 6 + 1, none⟩ = some (.int .i64 x.x) ∧ w'.cell? ⟨b2, off2 + j * 6 + 2, none⟩ = some (.int .i64 x.y) ∧ w'.cell? ⟨b2, off2 + j * 6 + 3, none⟩ = some (.int .i64 x.wd) ∧ w'.cell? ⟨b2, off2 + j * 6 + 4, none⟩ = some (.int .i64 x.ht) ∧ w'.cell? ⟨b2, off2 + j * 6 + 5, none⟩ = some (.int .i64 x.rk) := fun w' h => by
                    obtain ⟨v0, v1, v2, v3, v4, v5, _⟩ := HX.out w' (bel_step hbx h)
                    exact ⟨v0, v1, v2, v3, v4, v5, bel_cellM h hb2 c0, bel_cellM h hb2 c1, bel_cellM h hb2 c2, bel_cellM h hb2 c3, bel_cellM h hb2 c4, bel_cellM h hb2 c5⟩
                  have g0 : Bel wx wx := Bel.refl _
                  clear hx2 c0 c1 c2 c3 c4 c5 S1
                  go_wp2
                  go_region_held3 (fun w' => Bel wx w') (with_reducible (repeat (first | assumption | exact g0 | refine Bel.drew ?_ | refine bel_then (by assumption) ?_)))
                    (first | (go_at_call 86; refine (l8Overlap_any d x r _ Hr.out hkd kx).mono ?_; rintro e w3 ⟨rfl, hb3⟩))
                  have hH : Bel wx w3 := by assumption
                  go_wp2
                  go_roundw
                  case rel => exact ⟨j + 1, !r, by omega, by go_num, rfl, HFt.out.symm, bel_step hbx hH⟩
                  case measure => simp [intOf]; omega
              · have e : j = s.length := by omega
                subst e
                have hjI : ¬ (s.length : Int) < (s.length : Int) := by omega
                have HF : Hid (frB (s.map rmOf) (rmOf d) = fb) := by rw [Hfb.out, List.take_length]; exact rfl
                go_wp2
                go_meet
                case rel => exact ⟨by rw [HF.out], hbx⟩
          case rest =>
            obtain ⟨rfl, hbc⟩ := hcut
            have hyc := bel_step hyU hbc
            obtain ⟨v0, v1, v2, v3, v4, v5, vl⟩ := HX.out wc hbc
            have HGc : Hid (Gr 6 (flatV LblP lblCs) 33 wo.heap.size wc (.slice sa s.length sc) s R (fun _ => [])) := HGU.out.bel lblF.stays hbc
            have HOc : Hid (OwnI wo.heap.size wc (.slice (some ⟨gb, 0, none⟩) O.length gc) O) := own_bel HOw.out (bel_step hbU hbc)
            rcases Bool.eq_false_or_eq_true (frB (s.map rmOf) (rmOf d)) with hf | hf
            · have HS : Hid (plTo [] o = plTo (s ++ [d]) (o.drop (i + 1))) := by rw [Hsp.out, Hst.out, if_pos hf]; exact rfl
              rw [hf]
              have hGo := HGc.out.own
              have hownA := World.ownsRow.alloc hGo (.cells #[.int .i64 d.id, .int .i64 d.x, .int .i64 d.y, .int .i64 d.wd, .int .i64 d.ht, .int .i64 d.rk] 33)
              have hs5 : s.length ≤ 500 := by omega
              have hwl : wo.heap.size ≤ wc.heap.size := hyc.out.size
              go_wp2_with (first
                | (at_builtin; refine wpList_append_lies _ rfl _ _ 24 rfl wo.heap.size 33 i0 (.agg #[.int .i64 0, .int .i64 0, .int .i64 0, .int .i64 0, .int .i64 0, .int .i64 0]) 6 48 Try.underlying24 hi0 hz0 hz1 hz2 rfl (by decide) _ _ _ rfl hownA ⟨wc.heap.size, 0, none⟩ 1 1 [.int .i64 d.id, .int .i64 d.x, .int .i64 d.y, .int .i64 d.wd, .int .i64 d.ht, .int .i64 d.rk] rfl rfl (World.news_of_block (cs := #[.int .i64 d.id, .int .i64 d.x, .int .i64 d.y, .int .i64 d.wd, .int .i64 d.ht, .int .i64 d.rk]) (t := 33) (fr := (0, 0)) (heap_alloc_new wc _)) (by simp [Value.oneCell']) (by decide) (by unfold maxLen; omega) (by omega) (by first | omega | (simp; omega)) (wc.heap.size + 1) (by simp) ?_)
                | go_in)
              intro g5 cap5 w5 hown5 hgrow5 hat5 _
              have hba : Bel wc (wc.alloc (.cells #[.int .i64 d.id, .int .i64 d.x, .int .i64 d.y, .int .i64 d.wd, .int .i64 d.ht, .int .i64 d.rk] 33)) := bel_alloc (Bel.refl _) _
              obtain ⟨R5, hG5⟩ := Gr.addF lblF HGc.out hba (d := d) (lbl_P hkd) hwl hown5 hgrow5 (hatF (by simpa using hat5))
              have hsr : ∀ x, (Value.slice sa s.length sc).ownBlock = some x → wo.heap.size ≤ x := fun x hx => (hGo.lt x hx).1
              have hb5 : Bel wo w5 := bel_grow (bel_step hyc hba) hgrow5 hsr
              have HG5 : Hid (Gr 6 (flatV LblP lblCs) 33 wo.heap.size w5 (.slice (some ⟨g5, 0, none⟩) (s.length + 1) cap5) (s ++ [d]) R5 (fun _ => [])) := hG5
              have HO5 : Hid (OwnI wo.heap.size w5 (.slice (some ⟨gb, 0, none⟩) O.length gc) O) := own_keepO (own_bel HOc.out hba) hownA (by decide) hgrow5
              have HX5 : Hid (w5.cell? ⟨wy.heap.size, 0, none⟩ = some (.int .i64 d.id)) := by
                have h1 : wc.cell? ⟨wy.heap.size, 0, none⟩ = some (.int .i64 d.id) := v0
                have h2 := bel_cellM hba vl h1
                have hne : some wy.heap.size ≠ (Value.slice sa s.length sc).ownBlock := fun e => by have := (HG.out.own.lt _ e.symm).2; omega
                rw [World.cell?_of_block (hgrow5.block wy.heap.size (Nat.lt_of_lt_of_le vl hba.out.size) hne)]
                exact h2
              have x5l : wy.heap.size < w5.heap.size := Nat.lt_of_lt_of_le vl (Nat.le_trans hba.out.size hgrow5.size)
              have hin : ∀ y ∈ O, In64 y := fun y hy => by
                obtain ⟨e, he, rfl⟩ := List.mem_map.1 (HPm.out.mem_iff.1 hy)
                have := (lblK_out (HsK.out e he)).1
                unfold In64; omega
              have hdn : In64 d.id := by have := (lblK_out hkd).1; unfold In64; omega
              have hnx : d.id ∉ O := fun h => by
                obtain ⟨e, he, hid⟩ := List.mem_map.1 (HPm.out.mem_iff.1 h)
                have h1 := Hsm.out e he
                have h2 : d ∈ o := by rw [← Hod.out]; exact List.getElem_mem hio
                have h3 : e = d := lbl_id HP.out (HOm.out e (List.mem_of_mem_take h1)) (HOm.out d h2) hid
                rw [h3] at h1
                obtain ⟨j, hj, e2⟩ := List.getElem_of_mem h1
                rw [List.getElem_take] at e2
                rw [List.length_take] at hj
                have h4 := (List.nodup_iff_pairwise_ne.1 HOn.out)
                exact List.pairwise_iff_getElem.1 h4 j i (by omega) hio (by omega) (e2.trans Hod.out.symm)
              obtain ⟨ao, co, bso, evo, hIO⟩ := own_intsT HO5.out hin
              injection evo with eo1 _ eo3
              subst eo1
              subst eo3
              have hOn : O.length ≤ 1000 := by rw [HOls.out]; omega
              have x5 := HX5.out
              clear v0 v1 v2 v3 v4 v5 vl hownA hown5 hgrow5 hat5 hG5 hGo
              go_wp2_with fail
              refine (l8Add_any (some ⟨gb, 0, none⟩) O.length gc O bso d.id w5 hIO rfl hOn hOc HPw.out hnx hdn ⟨gb, 0, rfl⟩).mono ?_
              rintro e w6 ⟨v6, O6, rfl, hO6, hP6, hS6, hb6⟩
              have hl6 : O6.length = s.length + 1 := by rw [hP6.length_eq, List.length_append, HOls.out]; rfl
              obtain ⟨g6, c6, rfl, hc6⟩ := own_someT hO6 (by omega)
              have HO6 : Hid (OwnI wo.heap.size w6 (.slice (some ⟨g6, 0, none⟩) O6.length c6) O6) := own_base hO6 hb5.out.size
              have HP6 : Hid (O6.Perm ((s ++ [d]).map (·.id))) := by rw [List.map_append]; exact hP6.trans (HPm.out.append_right _)
              have HS6 : Hid (O6.Pairwise (· < ·)) := hS6
              have HG6 : Hid (Gr 6 (flatV LblP lblCs) 33 wo.heap.size w6 (.slice (some ⟨g5, 0, none⟩) (s.length + 1) cap5) (s ++ [d]) R5 (fun _ => [])) := HG5.out.bel lblF.stays hb6
              have HL6 : Hid (O6.length = s.length + 1) := hl6
              clear hO6 hP6 hS6 hl6 x5 x5l
              go_wp2
              go_roundw
              case rel =>
                refine ⟨i + 1, s ++ [d], some ⟨g5, 0, none⟩, cap5, R5, O6, g6, c6, by omega, by go_num, ?_, ?_, rfl, hc6, HO6.out, HP6.out, HS6.out, by simp; omega, fun e he => ?_, HS.out, bel_step hb5 hb6⟩
                · simp
                · have e : (s ++ [d]).length = s.length + 1 := by simp
                  rw [e]; exact HG6.out
                · rw [List.take_succ_eq_append_getElem hio]
                  rcases List.mem_append.1 he with he | he
                  · exact List.mem_append_left _ (Hsm.out e he)
                  · rw [List.mem_singleton.1 he, ← Hod.out]; exact List.mem_append_right _ (by simp)
              case measure => simp [intOf]; omega
            · have HS : Hid (plTo [] o = plTo s (o.drop (i + 1))) := by rw [Hsp.out, Hst.out, if_neg (by rw [hf]; exact Bool.false_ne_true)]; exact rfl
              rw [hf]
              clear v0 v1 v2 v3 v4 v5 vl
              go_wp2
              go_roundw
              case rel => exact ⟨i + 1, s, sa, sc, R, O, gb, gc, by omega, by go_num, rfl, HGc.out, rfl, hOc, HOc.out, HPm.out, HPw.out, by omega, fun e he => by
                rw [List.take_succ_eq_append_getElem hio]; exact List.mem_append_left _ (Hsm.out e he), HS.out, hyc⟩
              case measure => simp [intOf]; omega
        · have e : i = k := by omega
          subst e
          have hltI2 : ¬ (i : Int) < (i : Int) := by omega
          have HR : Hid (O = ascI ((plTo [] o).map (·.id))) := by
            rw [Hsp.out, List.drop_eq_nil_of_le (by rw [HOl.out]; exact Nat.le_refl _)]
            exact asc_uniq HPm.out (HPw.out.imp (fun h => by omega))
          have HRi : Hid (∃ bs', Ints wy (some ⟨gb, 0, none⟩) O bs' ∧ ∀ x ∈ bs', wo.heap.size ≤ x) := by
            obtain ⟨a', c', bs', ev, h, hlo⟩ := own_intsB HOw.out (fun y hy => by
              obtain ⟨d, hd, rfl⟩ := List.mem_map.1 (HPm.out.mem_iff.1 hy)
              obtain ⟨j, hj, rfl⟩ := List.getElem_of_mem (HOm.out d (List.mem_of_mem_take (Hsm.out d hd)))
              have := (lblK_out (HK.out j hj)).1
              unfold In64; omega)
            injection ev with e1 _ _
            subst e1
            exact ⟨bs', h, hlo⟩
          have HR2 : Hid (ascI ((plTo [] (ordQ bf l)).map (·.id)) = O) := by rw [Ho.out]; exact HR.out.symm
          have HZ : Hid (IntOut w (ascI ((plTo [] (ordQ bf l)).map (·.id))) (.returned (.slice (some ⟨gb, 0, none⟩) O.length gc)) wy) := by
            obtain ⟨bs', h, hlo⟩ := HRi.out
            rw [HR2.out]
            exact ⟨_, gc, bs', rfl, h, bel_step hBr hby, fun x hx => Nat.le_trans hBr.out.size (hlo x hx)⟩
          go_wp2
          go_ret
          exact HZ.out
set_option maxRecDepth 100000 in
set_option maxHeartbeats 1000000 in
theorem specPlace_any (a : Option Addr) (n c : Nat) (l : List LblD) (bs : List Nat) (ai : Option Addr) (ni ci : Nat) (bf : List Int) (bi : List Nat) (w : World) (hT : LblL w a l bs) (hn : l.length = n) (hm : n ≤ 1048576) (hc : n ≤ c) (hI : Ints w ai bf bi) (hni : bf.length = ni) (hmi : ni ≤ 1048576) :
    Calls Try.prog 41 #[.slice a n c, .slice ai ni ci] w fun e w' => IntOut w (plQ l bf) e w' := by
  go_enter Try.func41, Try.ntmps41
  go_wp2_with fail
  refine (specLabelsOk_any a n c l bs _ hT hn hm hc).mono ?_
  rintro e w1 ⟨rfl, hb1⟩
  rcases Bool.eq_false_or_eq_true (bP (lblsP l)) with hp | hp
  rotate_left
  · have HQ : Hid (plQ l bf = []) := plQ_no hp
    have HZ : Hid (IntOut w (plQ l bf) (.returned (.slice (some ⟨w1.heap.size, 0, none⟩) 0 0)) (w1.alloc (.cells #[] 2))) := by
      rw [HQ.out]
      exact ⟨_, 0, [], rfl, Sl.nil, bel_alloc hb1 _, fun _ h => nomatch h⟩
    rw [hp]
    go_wp2
    go_ret
    exact HZ.out
  rw [hp]
  by_cases h5 : ni ≤ 500
  rotate_left
  · have HQ : Hid (plQ l bf = []) := plQ_many (by rw [hni]; exact h5)
    have HZ : Hid (IntOut w (plQ l bf) (.returned (.slice (some ⟨w1.heap.size, 0, none⟩) 0 0)) (w1.alloc (.cells #[] 2))) := by
      rw [HQ.out]
      exact ⟨_, 0, [], rfl, Sl.nil, bel_alloc hb1 _, fun _ h => nomatch h⟩
    have h5' : (500 : Int) < (ni : Int) := by omega
    go_wp2
    go_ret
    exact HZ.out
  have h5' : ¬ (500 : Int) < (ni : Int) := by omega
  have HQ : Hid (plQ l bf = ascI ((plTo [] (ordQ bf l)).map (·.id))) := plQ_yes hp (by rw [hni]; exact h5)
  have hT1 := hT.bel lblE hb1
  have hI1 := hI.bel intE hb1
  clear hT hI
  go_wp2_with fail
  refine (l8Place_any a n c l bs ai ni ci bf bi _ hT1 hn hI1 hni hmi (bP_out hp)).mono ?_
  rintro e w2 ⟨a2, c2, bs2, rfl, hI2, hb2, hx2⟩
  have HZ : Hid (IntOut w (plQ l bf) (.returned (.slice a2 (ascI ((plTo [] (ordQ bf l)).map (·.id))).length c2)) w2) := by
    rw [HQ.out]
    exact ⟨a2, c2, bs2, rfl, hI2, bel_step hb1 hb2, fun x hx => Nat.le_trans hb1.out.size (hx2 x hx)⟩
  go_wp2
  go_ret
  exact HZ.out
end Go.Proofs.Ytpbpnkklnbmkeaa
