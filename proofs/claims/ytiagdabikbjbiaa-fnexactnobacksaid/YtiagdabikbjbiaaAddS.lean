/-
  A Ban put into a sorted list, in the model: contract.
-/
import Derived.Test.YtiagdabikbjbiaaXA
import Derived.Test.YtiagdabikbjbiaaXD
import Derived.Deep.AppendLies
import Derived.Deep.QuietTactic
namespace Go.Proofs.Ytiagdabikbjbiaa
open Go.RowKit Go.Maps

def bnP (d : BanD) : Prop := In64 d.fr ∧ In64 d.to
def bnCs (d : BanD) : List Value := [.int .i64 d.fr, .int .i64 d.to]
theorem banF : Flat 2 BanE bnP bnCs :=
  ⟨fun _ => rfl, fun _ u hu => by simp [bnCs] at hu; rcases hu with rfl | rfl <;> rfl,
   fun ⟨_, h1, h2, h3, h4⟩ => ⟨⟨h1, h2⟩, fun j hj => by match j, hj with | 0, _ => exact h3 | 1, _ => exact h4⟩,
   fun ⟨h1, h2⟩ hc => ⟨rfl, h1, h2, hc 0 (by simp [bnCs]), hc 1 (by simp [bnCs])⟩⟩
theorem infoBn : (Try.prog.info? 75).map (fun i => (i.zero, i.size, i.bytes)) = some (some (.agg #[.int .i64 0, .int .i64 0]), 2, 16) := by kernel_rfl
theorem recs_flat {α : Type} (q : Nat) (cs : α → List Value) : ∀ l : List α, recs (csL q cs l) l.length = l.flatMap cs
  | [] => rfl
  | x :: r => by
    rw [List.flatMap_cons, ← recs_flat q cs r]
    unfold recs
    have h : (fun i => csL q cs (x :: r) (i + 1)) = csL q cs r := by funext i; simp [csL]
    rw [List.length_cons, List.range_succ_eq_map, List.flatMap_cons, List.flatMap_map]
    show csL q cs (x :: r) 0 ++ (List.range r.length).flatMap (fun i => csL q cs (x :: r) (i + 1)) = _
    rw [h]
    rfl
/-- What comes of it: the list itself, where it is there already; else a row of its own. -/
def AddOut (w : World) (a : Option Addr) (c : Nat) (l : List BanD) (d : BanD) (e : Ending) (w' : World) : Prop :=
  (e = .returned (.slice a l.length c) ∧ addB l d = l ∧ Bel w w') ∨
  ∃ v', e = .returned v' ∧ w'.ownsRow w.heap.size 75 2 v' (addB l d).length (recs (csL 2 bnCs (addB l d)) (addB l d).length) ∧ (∀ x ∈ addB l d, bnP x) ∧ Bel w w'

theorem own_low2 {w : World} {base base' : Nat} {e : TypeId} {q n : Nat} {v : Value} {xs : List Value} (h : w.ownsRow base e q v n xs) (hb : base' ≤ base) : w.ownsRow base' e q v n xs := by
  obtain ⟨h1, h2⟩ := h
  exact ⟨h1, h2.imp id fun ⟨g, cap, cur, e1, e2, e3⟩ => ⟨g, cap, cur, e1, Nat.le_trans hb e2, e3⟩⟩
theorem add_out2 {w wE : World} {a : Option Addr} {c n : Nat} {l : List BanD} {f t : Int} (hE : addB l ⟨f, t⟩ = l.take n ++ ⟨f, t⟩ :: l.drop n) (hn : l.length = n) (hf : In64 f) (ht : In64 t) (hin : ∀ x ∈ l, bnP x) (hb : Bel w wE) :
    ∀ v3 wC, wC.ownsRow wE.heap.size 75 2 v3 (0 + n + 1) (([] ++ recs (csL 2 bnCs (l.take n)) (l.take n).length) ++ [.int .i64 f, .int .i64 t]) → Bel wE wC → AddOut w a c l ⟨f, t⟩ (.returned v3) wC := by
  intro v3 wC h hbC
  refine .inr ⟨v3, rfl, ?_, fun x hx => ?_, bel_step hb hbC⟩
  · rw [recs_flat] at h
    rw [recs_flat, hE, List.flatMap_append, List.flatMap_cons]
    have hl : (l.take n ++ (⟨f, t⟩ : BanD) :: l.drop n).length = 0 + n + 1 := by
      rw [List.length_append, List.length_take, List.length_cons, List.length_drop, hn]; omega
    rw [hl, List.drop_eq_nil_of_le (by omega)]
    have h' := own_low2 h hb.out.size
    simpa [bnCs] using h'
  · rcases (addB_mem l ⟨f, t⟩ x).1 hx with rfl | hx
    · exact ⟨hf, ht⟩
    · exact hin x hx
theorem add_out {w wE : World} {a : Option Addr} {c n p : Nat} {l : List BanD} {f t : Int} (hE : addB l ⟨f, t⟩ = l.take p ++ ⟨f, t⟩ :: l.drop p) (hn : l.length = n) (hp : p < n) (hf : In64 f) (ht : In64 t) (hin : ∀ x ∈ l, bnP x) (hb : Bel w wE) :
    ∀ v3 wC, wC.ownsRow wE.heap.size 75 2 v3 (0 + p + 1 + (n - p)) ((([] ++ recs (csL 2 bnCs (l.take p)) (l.take p).length) ++ [.int .i64 f, .int .i64 t]) ++ recs (csL 2 bnCs (l.drop p)) (l.drop p).length) → Bel wE wC → AddOut w a c l ⟨f, t⟩ (.returned v3) wC := by
  intro v3 wC h hbC
  refine .inr ⟨v3, rfl, ?_, fun x hx => ?_, bel_step hb hbC⟩
  · rw [recs_flat, recs_flat] at h
    rw [recs_flat, hE, List.flatMap_append, List.flatMap_cons]
    have hl : (l.take p ++ (⟨f, t⟩ : BanD) :: l.drop p).length = 0 + p + 1 + (n - p) := by
      rw [List.length_append, List.length_take, List.length_cons, List.length_drop, hn]; omega
    rw [hl]
    have h' := own_low2 h hb.out.size
    simpa [bnCs] using h'
  · rcases (addB_mem l ⟨f, t⟩ x).1 hx with rfl | hx
    · exact ⟨hf, ht⟩
    · exact hin x hx

set_option maxRecDepth 100000 in
set_option maxHeartbeats 2000000 in
theorem addBan_any (a2 : Option Addr) (n c2 : Nat) (l : List BanD) (bs : List Nat) (f t : Int) (w : World) (hT : BanL w a2 l bs) (hn : l.length = n) (hm : n ≤ 2001) (hA : SrtB l) (hf : In64 f) (ht : In64 t) (hcap : n ≤ c2) :
    Calls Try.prog 44 #[.slice a2 n c2, .agg #[.int .i64 f, .int .i64 t]] w fun e w' => AddOut w a2 c2 l ⟨f, t⟩ e w' := by
  have Hn : Hid (l.length = n) := hn
  have H : Hid (SrtB l) := hA
  clear hn hA
  have heq := bnEq
  obtain ⟨W, HW⟩ : ∃ W, Hid (W = w.alloc (.cells #[.int .i64 f, .int .i64 t] 75)) := ⟨_, (rfl : w.alloc (.cells #[.int .i64 f, .int .i64 t] 75) = _)⟩
  have hBW : Bel w W := by rw [HW.out]; exact bel_alloc (Bel.refl _) _
  have X1 : Blk W w.heap.size [.int .i64 f, .int .i64 t] := by rw [HW.out]; exact Blk.new w [.int .i64 f, .int .i64 t] _
  have hG : ∀ w', Bel W w' → w'.cell? ⟨w.heap.size, 0, none⟩ = some (.int .i64 f) ∧ w'.cell? ⟨w.heap.size, 1, none⟩ = some (.int .i64 t) ∧ w.heap.size < w'.heap.size := fun w' h =>
    ⟨(X1.bel h).cell 0 (by simp), (X1.bel h).cell 1 (by simp), (X1.bel h).lt⟩
  have hTW := hT.bel banE hBW
  obtain ⟨y3, y4, yl⟩ := hG W (Bel.refl _)
  clear hT X1
  go_enter Try.func44, Try.ntmps44
  go_upto_region 1 with fail
  rw [← HW.out]
  go_wp2
  clear y3 y4 yl
  go_loopw [5, 6, 7] (fun lo hi _ wr => ∃ p q : Nat, p ≤ q ∧ q ≤ n ∧ lo = .int .i64 p ∧ hi = .int .i64 q ∧ Hid ((∀ i (h : i < l.length), i < p → banLt l[i] ⟨f, t⟩) ∧ ∀ i (h : i < l.length), q ≤ i → ¬ banLt l[i] ⟨f, t⟩) ∧ Bel W wr) (fun lo hi _ _ => (intOf hi).toNat - (intOf lo).toNat)
  case atStart => exact ⟨0, n, Nat.zero_le _, Nat.le_refl _, rfl, rfl, (⟨fun i _ hi => absurd hi (Nat.not_lt_zero _), fun i h1 h2 => absurd h2 (by rw [Hn.out] at h1; omega)⟩ : (∀ i (h : i < l.length), i < 0 → banLt l[i] ⟨f, t⟩) ∧ ∀ i (h : i < l.length), n ≤ i → ¬ banLt l[i] ⟨f, t⟩), Bel.refl _⟩
  case round =>
    obtain ⟨p, q, hpq, hqn, rfl, rfl, HS, hbel⟩ := hrel
    by_cases hlt : p < q
    · obtain ⟨k, hk⟩ : ∃ k, (p + q) / 2 = k := ⟨_, rfl⟩
      have hk1 : p ≤ k := by omega
      have hk2 : k < q := by omega
      have hki : ((p : Int) + q) / 2 = k := by omega
      have hkn : (k : Int) < (n : Int) := by omega
      have hkl : k < l.length := by rw [Hn.out]; omega
      obtain ⟨b, off, ff, rfl, hb, hx⟩ := (hTW.bel banE hbel).out hkl
      obtain ⟨_, _, _, z0, z1⟩ := hx k hkl
      obtain ⟨d, Hd⟩ : ∃ d, Hid (d = l[k]) := ⟨_, (rfl : l[k] = _)⟩
      rw [← Hd.out] at z0 z1
      have hS : ∀ w', Bel wr w' → w'.cell? ⟨w.heap.size, 0, none⟩ = some (.int .i64 f) ∧ w'.cell? ⟨w.heap.size, 1, none⟩ = some (.int .i64 t) ∧ w'.cell? ⟨b, off + k * 2, none⟩ = some (.int .i64 d.fr) ∧ w'.cell? ⟨b, off + k * 2 + 1, none⟩ = some (.int .i64 d.to) := fun w' h => by
        obtain ⟨s2, s3, _⟩ := hG w' (bel_step hbel h)
        exact ⟨s2, s3, bel_cellM h hb z0, bel_cellM h hb z1⟩
      have g0 : Bel wr wr := Bel.refl _
      obtain ⟨r, HR⟩ : ∃ r, Hid (bP (banLt d ⟨f, t⟩) = r) := ⟨_, (rfl : bP (banLt d ⟨f, t⟩) = _)⟩
      have cB : ∀ w, Calls Try.prog 50 #[.agg #[.int .i64 d.fr, .int .i64 d.to], .agg #[.int .i64 f, .int .i64 t]] w fun e w' => e = .returned (.bool r) ∧ Bel w w' := fun w => by rw [← HR.out]; exact banLess_any d ⟨f, t⟩ w
      clear hx z0 z1 hk
      rcases Bool.eq_false_or_eq_true r with hr | hr
      · have HS2 : Hid ((∀ i (h : i < l.length), i < k + 1 → banLt l[i] ⟨f, t⟩) ∧ ∀ i (h : i < l.length), q ≤ i → ¬ banLt l[i] ⟨f, t⟩) := ⟨fun i h hi => by
            have hd : banLt l[k] ⟨f, t⟩ := by rw [← Hd.out]; exact bP_out (by rw [HR.out]; exact hr)
            by_cases e : i = k
            · subst e; exact hd
            · exact banLt_trans (H.out _ _ (by omega) hkl (by omega)) hd, HS.out.2⟩
        subst hr
        go_wp2
        go_region_held3 (fun w' => Bel wr w') (with_reducible (repeat (first | assumption | exact g0 | refine Bel.drew ?_ | refine bel_then (by assumption) ?_)))
          (first
            | (go_at_call 50; with_reducible refine (cB _).mono ?_; rintro e w' ⟨rfl, hbk⟩))
        have hH : Bel wr w' := by assumption
        go_wp2
        go_roundw
        case rel => exact ⟨k + 1, q, by omega, hqn, by go_num, rfl, HS2, bel_step hbel hH⟩
        case measure => simp [intOf]; omega
      · have HS2 : Hid ((∀ i (h : i < l.length), i < p → banLt l[i] ⟨f, t⟩) ∧ ∀ i (h : i < l.length), k ≤ i → ¬ banLt l[i] ⟨f, t⟩) := ⟨HS.out.1, fun i h hi hlt' => by
            have hd : ¬ banLt l[k] ⟨f, t⟩ := by rw [← Hd.out]; exact bP_not (by rw [HR.out]; exact hr)
            by_cases e : i = k
            · subst e; exact hd hlt'
            · exact hd (banLt_trans (H.out _ _ hkl h (by omega)) hlt')⟩
        subst hr
        go_wp2
        go_region_held3 (fun w' => Bel wr w') (with_reducible (repeat (first | assumption | exact g0 | refine Bel.drew ?_ | refine bel_then (by assumption) ?_)))
          (first
            | (go_at_call 50; with_reducible refine (cB _).mono ?_; rintro e w' ⟨rfl, hbk⟩))
        have hH : Bel wr w' := by assumption
        go_wp2
        go_roundw
        case rel => exact ⟨p, k, hk1, by omega, rfl, rfl, HS2, bel_step hbel hH⟩
        case measure => simp [intOf]; omega
    · obtain rfl : p = q := by omega
      obtain ⟨y3, y4, yl⟩ := hG wr hbel
      by_cases hpn : p < n
      · have hpI : (p : Int) < (n : Int) := by omega
        have hkl : p < l.length := by rw [Hn.out]; omega
        obtain ⟨b, off, ff, rfl, hb, hx⟩ := (hTW.bel banE hbel).out hkl
        obtain ⟨_, _, _, z0, z1⟩ := hx p hkl
        obtain ⟨d, Hd⟩ : ∃ d, Hid (d = l[p]) := ⟨_, (rfl : l[p] = _)⟩
        rw [← Hd.out] at z0 z1
        clear hx
        by_cases he : d.fr = f ∧ d.to = t
        · have HE : Hid (addB l ⟨f, t⟩ = l) := addB_there l ⟨f, t⟩ p hkl HS.out.1 (by rw [← Hd.out]; exact ban_ext he.1 he.2)
          have hq := bn_same he
          clear he
          go_wp2
          go_quiet (fail)
          go_wp2
          go_ret
          exact .inl ⟨by rw [Hn.out]; rfl, HE.out, bel_step hBW (bel_drewN hbel _)⟩
        · have HE : Hid (addB l ⟨f, t⟩ = l.take p ++ ⟨f, t⟩ :: l.drop p) := addB_new l ⟨f, t⟩ p (Nat.le_of_lt hkl) HS.out.1 (fun h => by
            rcases banLt_tri l[p] ⟨f, t⟩ with h1 | h1 | h1
            · exact absurd h1 (HS.out.2 p hkl (Nat.le_refl _))
            · exact absurd (by rw [Hd.out, h1]; exact ⟨rfl, rfl⟩) he
            · exact h1)
          have hq := bn_diff he
          clear he
          go_wp2
          go_quiet (fail)
          go_wp2
          obtain ⟨wE, HwE⟩ : ∃ wE, Hid (wr.drewN nq = wE) := ⟨_, (rfl : wr.drewN nq = _)⟩
          have hbE : Bel W wE := by rw [← HwE.out]; exact bel_drewN hbel _
          have hS : ∀ w', Bel wE w' → w'.cell? ⟨w.heap.size, 0, none⟩ = some (.int .i64 f) ∧ w'.cell? ⟨w.heap.size, 1, none⟩ = some (.int .i64 t) := fun w' h => ⟨(hG w' (bel_step hbE h)).1, (hG w' (bel_step hbE h)).2.1⟩
          have hpc : (p : Int) ≤ (c2 : Int) := by omega
          have hpn' : (p : Int) ≤ (n : Int) := by omega
          rw [HwE.out]
          obtain ⟨i0, hi0, hz0, hz1, hz2⟩ := info_parts infoBn
          have Hl1 : Hid ((recs (csL 2 bnCs (l.take p)) (l.take p).length).length = p * 2) := show (recs (csL 2 bnCs (l.take p)) (l.take p).length).length = p * 2 by rw [recs_len (csL_len banF _), List.length_take, Nat.min_eq_left (Nat.le_of_lt hkl)]
          have Hl3 : Hid ((recs (csL 2 bnCs (l.drop p)) (l.drop p).length).length = (n - p) * 2) := show (recs (csL 2 bnCs (l.drop p)) (l.drop p).length).length = (n - p) * 2 by rw [recs_len (csL_len banF _), List.length_drop, Hn.out]
          have HX : Hid (∀ w', Bel wE w' → ∃ f' : Nat → List Nat, ∀ i (h : i < l.length), BanE w' b (off + i * 2) l[i] (f' i)) := show ∀ w', Bel wE w' → ∃ f' : Nat → List Nat, ∀ i (h : i < l.length), BanE w' b (off + i * 2) l[i] (f' i) from fun w' h => by
            obtain ⟨b', off', f', e, _, hx'⟩ := (hTW.bel banE (bel_step hbE h)).out hkl
            injection e with e
            injection e with e1 e2
            subst e1; subst e2
            exact ⟨f', hx'⟩
          have HN1 : Hid (∀ w', Bel wE w' → ∀ j u, (recs (csL 2 bnCs (l.take p)) (l.take p).length)[j]? = some u → w'.cell? ((⟨b, off, none⟩ : Addr).add j) = some u) := show ∀ w', Bel wE w' → ∀ j u, (recs (csL 2 bnCs (l.take p)) (l.take p).length)[j]? = some u → w'.cell? ((⟨b, off, none⟩ : Addr).add j) = some u from fun w' h => by
            obtain ⟨f', hx'⟩ := HX.out w' h
            exact banF.news (by decide) (f := f') fun i hi => by
              have hi' : i < l.length := by rw [List.length_take] at hi; omega
              rw [List.getElem_take]; exact hx' i hi'
          have HN3 : Hid (∀ w', Bel wE w' → ∀ j u, (recs (csL 2 bnCs (l.drop p)) (l.drop p).length)[j]? = some u → w'.cell? ((⟨b, off + p * 2, none⟩ : Addr).add j) = some u) := show ∀ w', Bel wE w' → ∀ j u, (recs (csL 2 bnCs (l.drop p)) (l.drop p).length)[j]? = some u → w'.cell? ((⟨b, off + p * 2, none⟩ : Addr).add j) = some u from fun w' h => by
            obtain ⟨f', hx'⟩ := HX.out w' h
            exact banF.news (by decide) (f := fun i => f' (p + i)) fun i hi => by
              have hi' : p + i < l.length := by rw [List.length_drop] at hi; omega
              have h1 := hx' (p + i) hi'
              rw [List.getElem_drop, Nat.add_assoc, ← Nat.add_mul]; exact h1
          have HOut : Hid (∀ v3 wC, wC.ownsRow wE.heap.size 75 2 v3 (0 + p + 1 + (n - p)) ((([] ++ recs (csL 2 bnCs (l.take p)) (l.take p).length) ++ [.int .i64 f, .int .i64 t]) ++ recs (csL 2 bnCs (l.drop p)) (l.drop p).length) → Bel wE wC → AddOut w (some ⟨b, off, none⟩) c2 l ⟨f, t⟩ (.returned v3) wC) :=
            add_out HE.out Hn.out hpn hf ht (fun x hx => by obtain ⟨i, hi, rfl⟩ := List.getElem_of_mem hx; obtain ⟨f', hx'⟩ := HX.out wE (Bel.refl _); exact (banF.get (hx' i hi)).1) (bel_step hBW hbE)
          clear z0 z1 y3 y4 hq
          refine wp_region_noPanic ?_
          refine wp_region_held_drew (S := (fun w' => Bel wE w')) (by kernel_rfl) (Bel.refl _).drew (fun hHeld => ?_)
          generalize wE.drew = wD at hHeld ⊢
          refine wpAnyH_take (S := (fun w' => Bel wE w')) (i := 1) (oi := { dst := some 40, op := Go.Op.move (Go.Operand.tmp 0), type := 32, pos := "l09_graph.go:161", after := #[], guard := none }) (v := ?vz1) rfl (by kernel_rfl) (by kernel_rfl) (by kernel_rfl) (fun _ _ _ h => h) (Or.inl ⟨by rfl, ?hz1⟩) hHeld ?rz1
          case hz1 => (intro w hSw; (try dsimp only at hSw); (try obtain ⟨s2, s3⟩ := hS w hSw); go_simp; try with_reducible rfl)
          try simp only [Act.put, List.setIfInBounds_toArray, List.set_cons_zero, List.set_cons_succ]
          refine wpAnyH_take (S := (fun w' => Bel wE w')) (i := 2) (oi := { dst := some 41, op := Go.Op.move (Go.Operand.tmp 5), type := 3, pos := "l09_graph.go:161", after := #[], guard := none }) (v := ?vz2) rfl (by kernel_rfl) (by kernel_rfl) (by kernel_rfl) (fun _ _ _ h => h) (Or.inl ⟨by rfl, ?hz2⟩) hHeld ?rz2
          case hz2 => (intro w hSw; (try dsimp only at hSw); (try obtain ⟨s2, s3⟩ := hS w hSw); go_simp; try with_reducible rfl)
          try simp only [Act.put, List.setIfInBounds_toArray, List.set_cons_zero, List.set_cons_succ]
          refine wpAnyH_take (S := (fun w' => Bel wE w')) (i := 3) (oi := { dst := some 42, op := Go.Op.slice 32 (Go.Operand.tmp 40) none (some (Go.Operand.tmp 41)) none, type := 32, pos := "l09_graph.go:161", after := #[{ on := 1, ground := Go.Ground.data }, { on := 2, ground := Go.Ground.data }], guard := none }) (v := ?vz3) rfl (by kernel_rfl) (by kernel_rfl) (by kernel_rfl) (fun _ _ _ h => h) (Or.inl ⟨by rfl, ?hz3⟩) hHeld ?rz3
          case hz3 => (intro w hSw; (try dsimp only at hSw); (try obtain ⟨s2, s3⟩ := hS w hSw); go_simp; try with_reducible rfl)
          try simp only [Act.put, List.setIfInBounds_toArray, List.set_cons_zero, List.set_cons_succ]
          refine wpAnyH_take (S := (fun w' => Bel wE w')) (i := 5) (oi := { dst := some 44, op := Go.Op.load 75 (Go.Operand.tmp 3), type := 75, pos := "l09_graph.go:161", after := #[], guard := none }) (v := ?vz4) rfl (by kernel_rfl) (by kernel_rfl) (by kernel_rfl) (fun _ _ _ h => h) (Or.inl ⟨by rfl, ?hz4⟩) hHeld ?rz4
          case hz4 => (intro w hSw; (try dsimp only at hSw); (try obtain ⟨s2, s3⟩ := hS w hSw); go_simp; try with_reducible rfl)
          try simp only [Act.put, List.setIfInBounds_toArray, List.set_cons_zero, List.set_cons_succ]
          refine wpAnyH_take (S := (fun w' => Bel wE w')) (i := 8) (oi := { dst := some 47, op := Go.Op.move (Go.Operand.tmp 0), type := 32, pos := "l09_graph.go:161", after := #[], guard := none }) (v := ?vz5) rfl (by kernel_rfl) (by kernel_rfl) (by kernel_rfl) (fun _ _ _ h => h) (Or.inl ⟨by rfl, ?hz5⟩) hHeld ?rz5
          case hz5 => (intro w hSw; (try dsimp only at hSw); (try obtain ⟨s2, s3⟩ := hS w hSw); go_simp; try with_reducible rfl)
          try simp only [Act.put, List.setIfInBounds_toArray, List.set_cons_zero, List.set_cons_succ]
          refine wpAnyH_take (S := (fun w' => Bel wE w')) (i := 9) (oi := { dst := some 48, op := Go.Op.move (Go.Operand.tmp 5), type := 3, pos := "l09_graph.go:161", after := #[], guard := none }) (v := ?vz6) rfl (by kernel_rfl) (by kernel_rfl) (by kernel_rfl) (fun _ _ _ h => h) (Or.inl ⟨by rfl, ?hz6⟩) hHeld ?rz6
          case hz6 => (intro w hSw; (try dsimp only at hSw); (try obtain ⟨s2, s3⟩ := hS w hSw); go_simp; try with_reducible rfl)
          try simp only [Act.put, List.setIfInBounds_toArray, List.set_cons_zero, List.set_cons_succ]
          refine wpAnyH_take (S := (fun w' => Bel wE w')) (i := 10) (oi := { dst := some 49, op := Go.Op.slice 32 (Go.Operand.tmp 47) (some (Go.Operand.tmp 48)) none none, type := 32, pos := "l09_graph.go:161", after := #[{ on := 8, ground := Go.Ground.data }, { on := 9, ground := Go.Ground.data }], guard := none }) (v := .slice (some ⟨b, off + p * 2, none⟩) (n - p) (c2 - p)) rfl (by kernel_rfl) (by kernel_rfl) (by kernel_rfl) (fun _ _ _ h => h) (Or.inl ⟨by rfl, ?hz7⟩) hHeld ?rz7
          case hz7 => (intro w hSw; (try dsimp only at hSw); go_simp; first | done | (intro h; omega))
          try simp only [Act.put, List.setIfInBounds_toArray, List.set_cons_zero, List.set_cons_succ]
          have HsD : Hid (wE.heap.size ≤ wD.heap.size) := hHeld.out.size
          refine rd2 0 6 (fun K hK => ?_) (fun K hK => ?_)
          · go_simp
            refine hK.out _ _ (bel_alloc hHeld _) (fun hHeld' => ?_)
            clear hK K hHeld
            have hHeld := hHeld'
            clear hHeld'
            try simp only [Act.put, List.setIfInBounds_toArray, List.set_cons_zero, List.set_cons_succ]
            have hown0 := World.ownsRow_made (e := 75) (size := 2) (base := wE.heap.size) wD #[] 0 HsD.out (by unfold maxLen; omega) (by rfl)
            refine rd2 4 6 (fun K hK => ?_) (fun K hK => ?_)
            · refine step_app _ rfl _ _ _ rfl wE.heap.size 75 i0 (.agg #[.int .i64 0, .int .i64 0]) 2 16 Try.underlying32 hi0 hz0 hz1 hz2 rfl (by decide) (.slice (some ⟨wD.heap.size, 0, none⟩) 0 0) 0 [] (by rfl) hown0 ⟨b, off, none⟩ p _ (recs (csL 2 bnCs (l.take p)) (l.take p).length) (by rfl) Hl1.out (HN1.out _ (hHeld)) (banF.ones _) (by unfold maxLen; omega) (by omega) hHeld.out.size ?_
              intro v1 wA hownA hgA
              refine hK.out _ _ (bel_grow hHeld hgA (fun k e => by have := hown0.lt k e; omega)) (fun hHeld' => ?_)
              clear hK K hHeld
              have hHeld := hHeld'
              clear hHeld'
              try simp only [Act.put, List.setIfInBounds_toArray, List.set_cons_zero, List.set_cons_succ]
              refine rd1 6 (fun K hK => ?_)
              go_simp
              refine hK.out _ _ (bel_alloc hHeld _) (fun hHeld' => ?_)
              clear hK K hHeld
              have hHeld := hHeld'
              clear hHeld'
              try simp only [Act.put, List.setIfInBounds_toArray, List.set_cons_zero, List.set_cons_succ]
              have hown1 := hownA.alloc (.cells #[.int .i64 f, .int .i64 t] 75)
              clear hownA hgA
              refine rd1 7 (fun K hK => ?_)
              obtain ⟨va1, vc1, rfl⟩ := own_shape hown1
              refine step_app _ rfl _ _ _ rfl wE.heap.size 75 i0 (.agg #[.int .i64 0, .int .i64 0]) 2 16 Try.underlying32 hi0 hz0 hz1 hz2 rfl (by decide) (.slice va1 (0 + p) vc1) (0 + p) _ (by rfl) hown1 ⟨wA.heap.size, 0, none⟩ 1 1 [.int .i64 f, .int .i64 t] (by rfl) (by rfl) (World.news_of_block (cs := #[.int .i64 f, .int .i64 t]) (heap_alloc_new wA _)) (by simp [Value.oneCell']) (by unfold maxLen; omega) (by omega) hHeld.out.size ?_
              intro v2 wB hownB hgB
              refine hK.out _ _ (bel_grow hHeld hgB (fun k e => by have := hown1.lt k e; omega)) (fun hHeld' => ?_)
              clear hK K hHeld
              have hHeld := hHeld'
              clear hHeld'
              try simp only [Act.put, List.setIfInBounds_toArray, List.set_cons_zero, List.set_cons_succ]
              clear hown1
              refine rd1 11 (fun K hK => ?_)
              obtain ⟨va2, vc2, rfl⟩ := own_shape hownB
              refine step_app _ rfl _ _ _ rfl wE.heap.size 75 i0 (.agg #[.int .i64 0, .int .i64 0]) 2 16 Try.underlying32 hi0 hz0 hz1 hz2 rfl (by decide) (.slice va2 (0 + p + 1) vc2) (0 + p + 1) _ (by rfl) hownB ⟨b, off + p * 2, none⟩ (n - p) (c2 - p) (recs (csL 2 bnCs (l.drop p)) (l.drop p).length) (by rfl) Hl3.out (HN3.out _ hHeld) (banF.ones _) (by unfold maxLen; omega) (by omega) hHeld.out.size ?_
              intro v3 wC hownC hgC
              refine hK.out _ _ (bel_grow hHeld hgC (fun k e => by have := hownB.lt k e; omega)) (fun hHeld' => ?_)
              clear hK K hHeld
              have hHeld := hHeld'
              clear hHeld'
              try simp only [Act.put, List.setIfInBounds_toArray, List.set_cons_zero, List.set_cons_succ]
              refine rd1 12 (fun K hK => ?_)
              go_simp
              refine hK.out _ _ (hHeld) (fun hHeld' => ?_)
              clear hK K hHeld
              have hHeld := hHeld'
              clear hHeld'
              try simp only [Act.put, List.setIfInBounds_toArray, List.set_cons_zero, List.set_cons_succ]
              have HZ : Hid (AddOut w (some ⟨b, off, none⟩) c2 l ⟨f, t⟩ (.returned v3) wC) := HOut.out v3 wC hownC hHeld
              clear hownC hgC hownB hgB
              refine wpAnyH_done (by kernel_rfl) ?_ _
              refine NoPanic.normal ?_
              go_wp2
              go_ret
              exact HZ.out
            · go_simp
              refine hK.out _ _ (bel_alloc hHeld _) (fun hHeld' => ?_)
              clear hK K hHeld
              have hHeld := hHeld'
              clear hHeld'
              try simp only [Act.put, List.setIfInBounds_toArray, List.set_cons_zero, List.set_cons_succ]
              have hown0b := hown0.alloc (.cells #[.int .i64 f, .int .i64 t] 75)
              have hblk : ((wD.alloc (.cells #[] 75)).alloc (.cells #[.int .i64 f, .int .i64 t] 75)).heap[wD.heap.size + 1]? = some (.cells #[.int .i64 f, .int .i64 t] 75) := by have h := heap_alloc_new (wD.alloc (.cells #[] 75)) (.cells #[.int .i64 f, .int .i64 t] 75); simpa using h
              refine rd1 4 (fun K hK => ?_)
              refine step_app _ rfl _ _ _ rfl wE.heap.size 75 i0 (.agg #[.int .i64 0, .int .i64 0]) 2 16 Try.underlying32 hi0 hz0 hz1 hz2 rfl (by decide) (.slice (some ⟨wD.heap.size, 0, none⟩) 0 0) 0 [] (by rfl) hown0b ⟨b, off, none⟩ p _ (recs (csL 2 bnCs (l.take p)) (l.take p).length) (by rfl) Hl1.out (HN1.out _ (hHeld)) (banF.ones _) (by unfold maxLen; omega) (by omega) hHeld.out.size ?_
              intro v1 wA hownA hgA
              refine hK.out _ _ (bel_grow hHeld hgA (fun k e => by have := hown0b.lt k e; omega)) (fun hHeld' => ?_)
              clear hK K hHeld
              have hHeld := hHeld'
              clear hHeld'
              try simp only [Act.put, List.setIfInBounds_toArray, List.set_cons_zero, List.set_cons_succ]
              have hblk1 := (hgA.block (wD.heap.size + 1) (by simp) (by simp [Value.ownBlock])).trans hblk
              clear hgA
              refine rd1 7 (fun K hK => ?_)
              obtain ⟨va1, vc1, rfl⟩ := own_shape hownA
              refine step_app _ rfl _ _ _ rfl wE.heap.size 75 i0 (.agg #[.int .i64 0, .int .i64 0]) 2 16 Try.underlying32 hi0 hz0 hz1 hz2 rfl (by decide) (.slice va1 (0 + p) vc1) (0 + p) _ (by rfl) hownA ⟨wD.heap.size + 1, 0, none⟩ 1 1 [.int .i64 f, .int .i64 t] (by rfl) (by rfl) (World.news_of_block (cs := #[.int .i64 f, .int .i64 t]) hblk1) (by simp [Value.oneCell']) (by unfold maxLen; omega) (by omega) hHeld.out.size ?_
              intro v2 wB hownB hgB
              refine hK.out _ _ (bel_grow hHeld hgB (fun k e => by have := hownA.lt k e; omega)) (fun hHeld' => ?_)
              clear hK K hHeld
              have hHeld := hHeld'
              clear hHeld'
              try simp only [Act.put, List.setIfInBounds_toArray, List.set_cons_zero, List.set_cons_succ]
              clear hownA
              refine rd1 11 (fun K hK => ?_)
              obtain ⟨va2, vc2, rfl⟩ := own_shape hownB
              refine step_app _ rfl _ _ _ rfl wE.heap.size 75 i0 (.agg #[.int .i64 0, .int .i64 0]) 2 16 Try.underlying32 hi0 hz0 hz1 hz2 rfl (by decide) (.slice va2 (0 + p + 1) vc2) (0 + p + 1) _ (by rfl) hownB ⟨b, off + p * 2, none⟩ (n - p) (c2 - p) (recs (csL 2 bnCs (l.drop p)) (l.drop p).length) (by rfl) Hl3.out (HN3.out _ hHeld) (banF.ones _) (by unfold maxLen; omega) (by omega) hHeld.out.size ?_
              intro v3 wC hownC hgC
              refine hK.out _ _ (bel_grow hHeld hgC (fun k e => by have := hownB.lt k e; omega)) (fun hHeld' => ?_)
              clear hK K hHeld
              have hHeld := hHeld'
              clear hHeld'
              try simp only [Act.put, List.setIfInBounds_toArray, List.set_cons_zero, List.set_cons_succ]
              refine rd1 12 (fun K hK => ?_)
              go_simp
              refine hK.out _ _ (hHeld) (fun hHeld' => ?_)
              clear hK K hHeld
              have hHeld := hHeld'
              clear hHeld'
              try simp only [Act.put, List.setIfInBounds_toArray, List.set_cons_zero, List.set_cons_succ]
              have HZ : Hid (AddOut w (some ⟨b, off, none⟩) c2 l ⟨f, t⟩ (.returned v3) wC) := HOut.out v3 wC hownC hHeld
              clear hownC hgC hownB hgB
              refine wpAnyH_done (by kernel_rfl) ?_ _
              refine NoPanic.normal ?_
              go_wp2
              go_ret
              exact HZ.out
          · go_simp
            refine hK.out _ _ (bel_alloc hHeld _) (fun hHeld' => ?_)
            clear hK K hHeld
            have hHeld := hHeld'
            clear hHeld'
            try simp only [Act.put, List.setIfInBounds_toArray, List.set_cons_zero, List.set_cons_succ]
            refine rd1 0 (fun K hK => ?_)
            go_simp
            refine hK.out _ _ (bel_alloc hHeld _) (fun hHeld' => ?_)
            clear hK K hHeld
            have hHeld := hHeld'
            clear hHeld'
            try simp only [Act.put, List.setIfInBounds_toArray, List.set_cons_zero, List.set_cons_succ]
            have hown0 := World.ownsRow_made (e := 75) (size := 2) (base := wE.heap.size) (wD.alloc (.cells #[.int .i64 f, .int .i64 t] 75)) #[] 0 (by have := HsD.out; simp; omega) (by unfold maxLen; omega) (by rfl)
            have hsz1 : (wD.alloc (.cells #[.int .i64 f, .int .i64 t] 75)).heap.size = wD.heap.size + 1 := by simp
            rw [hsz1] at hown0
            have hblk : ((wD.alloc (.cells #[.int .i64 f, .int .i64 t] 75)).alloc (.cells #[] 75)).heap[wD.heap.size]? = some (.cells #[.int .i64 f, .int .i64 t] 75) := by have h := heap_alloc_new wD (.cells #[.int .i64 f, .int .i64 t] 75); have h2 := heap_alloc_old (wD.alloc (.cells #[.int .i64 f, .int .i64 t] 75)) (.cells #[] 75) (r := wD.heap.size) (by simp); exact h2.trans h
            refine rd1 4 (fun K hK => ?_)
            refine step_app _ rfl _ _ _ rfl wE.heap.size 75 i0 (.agg #[.int .i64 0, .int .i64 0]) 2 16 Try.underlying32 hi0 hz0 hz1 hz2 rfl (by decide) (.slice (some ⟨wD.heap.size + 1, 0, none⟩) 0 0) 0 [] (by rfl) hown0 ⟨b, off, none⟩ p _ (recs (csL 2 bnCs (l.take p)) (l.take p).length) (by rfl) Hl1.out (HN1.out _ (hHeld)) (banF.ones _) (by unfold maxLen; omega) (by omega) hHeld.out.size ?_
            intro v1 wA hownA hgA
            refine hK.out _ _ (bel_grow hHeld hgA (fun k e => by have := hown0.lt k e; omega)) (fun hHeld' => ?_)
            clear hK K hHeld
            have hHeld := hHeld'
            clear hHeld'
            try simp only [Act.put, List.setIfInBounds_toArray, List.set_cons_zero, List.set_cons_succ]
            have hblk1 := (hgA.block wD.heap.size (by simp; omega) (by simp [Value.ownBlock])).trans hblk
            clear hgA
            refine rd1 7 (fun K hK => ?_)
            obtain ⟨va1, vc1, rfl⟩ := own_shape hownA
            refine step_app _ rfl _ _ _ rfl wE.heap.size 75 i0 (.agg #[.int .i64 0, .int .i64 0]) 2 16 Try.underlying32 hi0 hz0 hz1 hz2 rfl (by decide) (.slice va1 (0 + p) vc1) (0 + p) _ (by rfl) hownA ⟨wD.heap.size, 0, none⟩ 1 1 [.int .i64 f, .int .i64 t] (by rfl) (by rfl) (World.news_of_block (cs := #[.int .i64 f, .int .i64 t]) hblk1) (by simp [Value.oneCell']) (by unfold maxLen; omega) (by omega) hHeld.out.size ?_
            intro v2 wB hownB hgB
            refine hK.out _ _ (bel_grow hHeld hgB (fun k e => by have := hownA.lt k e; omega)) (fun hHeld' => ?_)
            clear hK K hHeld
            have hHeld := hHeld'
            clear hHeld'
            try simp only [Act.put, List.setIfInBounds_toArray, List.set_cons_zero, List.set_cons_succ]
            clear hownA
            refine rd1 11 (fun K hK => ?_)
            obtain ⟨va2, vc2, rfl⟩ := own_shape hownB
            refine step_app _ rfl _ _ _ rfl wE.heap.size 75 i0 (.agg #[.int .i64 0, .int .i64 0]) 2 16 Try.underlying32 hi0 hz0 hz1 hz2 rfl (by decide) (.slice va2 (0 + p + 1) vc2) (0 + p + 1) _ (by rfl) hownB ⟨b, off + p * 2, none⟩ (n - p) (c2 - p) (recs (csL 2 bnCs (l.drop p)) (l.drop p).length) (by rfl) Hl3.out (HN3.out _ hHeld) (banF.ones _) (by unfold maxLen; omega) (by omega) hHeld.out.size ?_
            intro v3 wC hownC hgC
            refine hK.out _ _ (bel_grow hHeld hgC (fun k e => by have := hownB.lt k e; omega)) (fun hHeld' => ?_)
            clear hK K hHeld
            have hHeld := hHeld'
            clear hHeld'
            try simp only [Act.put, List.setIfInBounds_toArray, List.set_cons_zero, List.set_cons_succ]
            refine rd1 12 (fun K hK => ?_)
            go_simp
            refine hK.out _ _ (hHeld) (fun hHeld' => ?_)
            clear hK K hHeld
            have hHeld := hHeld'
            clear hHeld'
            try simp only [Act.put, List.setIfInBounds_toArray, List.set_cons_zero, List.set_cons_succ]
            have HZ : Hid (AddOut w (some ⟨b, off, none⟩) c2 l ⟨f, t⟩ (.returned v3) wC) := HOut.out v3 wC hownC hHeld
            clear hownC hgC hownB hgB
            refine wpAnyH_done (by kernel_rfl) ?_ _
            refine NoPanic.normal ?_
            go_wp2
            go_ret
            exact HZ.out
      · obtain rfl : p = n := by omega
        have HE : Hid (addB l ⟨f, t⟩ = l.take p ++ ⟨f, t⟩ :: l.drop p) := addB_new l ⟨f, t⟩ p (by rw [Hn.out]; exact Nat.le_refl _) HS.out.1 (fun h => by rw [Hn.out] at h; omega)
        have g0 : Bel wr wr := Bel.refl _
        have hge : decide ((p : Int) < (p : Int)) = false := by simp
        clear y3 y4
        go_wp2
        refine wp_region_noPanic ?_
        refine wp_region_held_drew (S := fun w' => Bel wr w') (by kernel_rfl) (Bel.drew g0) (fun hHeld => ?_)
        refine tk 0 hHeld ?_; refine tk 1 hHeld ?_; refine tk 2 hHeld ?_; refine tk 3 hHeld ?_; refine tk 4 hHeld ?_; refine sk 5 hHeld ?_
        refine sk 6 hHeld ?_; refine sk 7 hHeld ?_; refine sk 8 hHeld ?_; refine sk 9 hHeld ?_; refine sk 10 hHeld ?_; refine tk 11 hHeld ?_
        refine wpAnyH_done (by kernel_rfl) ?_ _
        refine NoPanic.normal ?_
        have hbE0 := bel_step hbel hHeld
        go_wp2
        obtain ⟨wE, HwE⟩ : ∃ wE, Hid (wr.drew = wE) := ⟨_, (rfl : wr.drew = _)⟩
        have hbE : Bel W wE := by rw [← HwE.out]; exact hbE0
        have hS : ∀ w', Bel wE w' → w'.cell? ⟨w.heap.size, 0, none⟩ = some (.int .i64 f) ∧ w'.cell? ⟨w.heap.size, 1, none⟩ = some (.int .i64 t) := fun w' h => ⟨(hG w' (bel_step hbE h)).1, (hG w' (bel_step hbE h)).2.1⟩
        rw [HwE.out]
        obtain ⟨i0, hi0, hz0, hz1, hz2⟩ := info_parts infoBn
        clear hHeld hbE0
        by_cases hp0 : p = 0
        · subst hp0
          have hl0 : l = [] := List.length_eq_zero_iff.1 Hn.out
          have HOut : Hid (∀ v3 wC, wC.ownsRow wE.heap.size 75 2 v3 (0 + 1) ([] ++ [.int .i64 f, .int .i64 t]) → Bel wE wC → AddOut w a2 c2 l ⟨f, t⟩ (.returned v3) wC) := show ∀ v3 wC, wC.ownsRow wE.heap.size 75 2 v3 (0 + 1) ([] ++ [.int .i64 f, .int .i64 t]) → Bel wE wC → AddOut w a2 c2 l ⟨f, t⟩ (.returned v3) wC from fun v3 wC h hb => by
            refine add_out2 (n := 0) HE.out Hn.out hf ht (by rw [hl0]; simp) (bel_step hBW hbE) v3 wC ?_ hb
            subst hl0
            exact h
          cases a2 with
          | none =>
            refine wp_region_noPanic ?_
            refine wp_region_held_drew (S := (fun w' => Bel wE w')) (by kernel_rfl) (Bel.refl _).drew (fun hHeld => ?_)
            generalize wE.drew = wD at hHeld ⊢
            refine wpAnyH_take (S := (fun w' => Bel wE w')) (i := 1) (oi := { dst := some 40, op := Go.Op.move (Go.Operand.tmp 0), type := 32, pos := "l09_graph.go:161", after := #[], guard := none }) (v := ?vz8) rfl (by kernel_rfl) (by kernel_rfl) (by kernel_rfl) (fun _ _ _ h => h) (Or.inl ⟨by rfl, ?hz8⟩) hHeld ?rz8
            case hz8 => (intro w hSw; (try dsimp only at hSw); (try obtain ⟨s2, s3⟩ := hS w hSw); go_simp; try with_reducible rfl)
            try simp only [Act.put, List.setIfInBounds_toArray, List.set_cons_zero, List.set_cons_succ]
            refine wpAnyH_take (S := (fun w' => Bel wE w')) (i := 2) (oi := { dst := some 41, op := Go.Op.move (Go.Operand.tmp 5), type := 3, pos := "l09_graph.go:161", after := #[], guard := none }) (v := ?vz9) rfl (by kernel_rfl) (by kernel_rfl) (by kernel_rfl) (fun _ _ _ h => h) (Or.inl ⟨by rfl, ?hz9⟩) hHeld ?rz9
            case hz9 => (intro w hSw; (try dsimp only at hSw); (try obtain ⟨s2, s3⟩ := hS w hSw); go_simp; try with_reducible rfl)
            try simp only [Act.put, List.setIfInBounds_toArray, List.set_cons_zero, List.set_cons_succ]
            refine wpAnyH_take (S := (fun w' => Bel wE w')) (i := 3) (oi := { dst := some 42, op := Go.Op.slice 32 (Go.Operand.tmp 40) none (some (Go.Operand.tmp 41)) none, type := 32, pos := "l09_graph.go:161", after := #[{ on := 1, ground := Go.Ground.data }, { on := 2, ground := Go.Ground.data }], guard := none }) (v := ?vz10) rfl (by kernel_rfl) (by kernel_rfl) (by kernel_rfl) (fun _ _ _ h => h) (Or.inl ⟨by rfl, ?hz10⟩) hHeld ?rz10
            case hz10 => (intro w hSw; (try dsimp only at hSw); (try obtain ⟨s2, s3⟩ := hS w hSw); go_simp; try with_reducible rfl)
            try simp only [Act.put, List.setIfInBounds_toArray, List.set_cons_zero, List.set_cons_succ]
            refine wpAnyH_take (S := (fun w' => Bel wE w')) (i := 5) (oi := { dst := some 44, op := Go.Op.load 75 (Go.Operand.tmp 3), type := 75, pos := "l09_graph.go:161", after := #[], guard := none }) (v := ?vz11) rfl (by kernel_rfl) (by kernel_rfl) (by kernel_rfl) (fun _ _ _ h => h) (Or.inl ⟨by rfl, ?hz11⟩) hHeld ?rz11
            case hz11 => (intro w hSw; (try dsimp only at hSw); (try obtain ⟨s2, s3⟩ := hS w hSw); go_simp; try with_reducible rfl)
            try simp only [Act.put, List.setIfInBounds_toArray, List.set_cons_zero, List.set_cons_succ]
            refine wpAnyH_take (S := (fun w' => Bel wE w')) (i := 8) (oi := { dst := some 47, op := Go.Op.move (Go.Operand.tmp 0), type := 32, pos := "l09_graph.go:161", after := #[], guard := none }) (v := ?vz12) rfl (by kernel_rfl) (by kernel_rfl) (by kernel_rfl) (fun _ _ _ h => h) (Or.inl ⟨by rfl, ?hz12⟩) hHeld ?rz12
            case hz12 => (intro w hSw; (try dsimp only at hSw); (try obtain ⟨s2, s3⟩ := hS w hSw); go_simp; try with_reducible rfl)
            try simp only [Act.put, List.setIfInBounds_toArray, List.set_cons_zero, List.set_cons_succ]
            refine wpAnyH_take (S := (fun w' => Bel wE w')) (i := 9) (oi := { dst := some 48, op := Go.Op.move (Go.Operand.tmp 5), type := 3, pos := "l09_graph.go:161", after := #[], guard := none }) (v := ?vz13) rfl (by kernel_rfl) (by kernel_rfl) (by kernel_rfl) (fun _ _ _ h => h) (Or.inl ⟨by rfl, ?hz13⟩) hHeld ?rz13
            case hz13 => (intro w hSw; (try dsimp only at hSw); (try obtain ⟨s2, s3⟩ := hS w hSw); go_simp; try with_reducible rfl)
            try simp only [Act.put, List.setIfInBounds_toArray, List.set_cons_zero, List.set_cons_succ]
            refine wpAnyH_take (S := (fun w' => Bel wE w')) (i := 10) (oi := { dst := some 49, op := Go.Op.slice 32 (Go.Operand.tmp 47) (some (Go.Operand.tmp 48)) none none, type := 32, pos := "l09_graph.go:161", after := #[{ on := 8, ground := Go.Ground.data }, { on := 9, ground := Go.Ground.data }], guard := none }) (v := ?vz14) rfl (by kernel_rfl) (by kernel_rfl) (by kernel_rfl) (fun _ _ _ h => h) (Or.inl ⟨by rfl, ?hz14⟩) hHeld ?rz14
            case hz14 => (intro w hSw; (try dsimp only at hSw); (try obtain ⟨s2, s3⟩ := hS w hSw); go_simp; try with_reducible rfl)
            try simp only [Act.put, List.setIfInBounds_toArray, List.set_cons_zero, List.set_cons_succ]
            have HsD : Hid (wE.heap.size ≤ wD.heap.size) := hHeld.out.size
            refine rd2 0 6 (fun K hK => ?_) (fun K hK => ?_)
            · go_simp
              refine hK.out _ _ (bel_alloc hHeld _) (fun hHeld' => ?_)
              clear hK K hHeld
              have hHeld := hHeld'
              clear hHeld'
              try simp only [Act.put, List.setIfInBounds_toArray, List.set_cons_zero, List.set_cons_succ]
              have hown0 := World.ownsRow_made (e := 75) (size := 2) (base := wE.heap.size) wD #[] 0 HsD.out (by unfold maxLen; omega) (by rfl)
              refine rd2 4 6 (fun K hK => ?_) (fun K hK => ?_)
              · refine step_app0 _ rfl _ _ _ rfl wE.heap.size 75 i0 2 Try.underlying32 hi0 (.slice (some ⟨wD.heap.size, 0, none⟩) 0 0) 0 [] (by rfl) hown0 _ _ (by rfl) ?_
                refine hK.out _ _ (hHeld) (fun hHeld' => ?_)
                clear hK K hHeld
                have hHeld := hHeld'
                clear hHeld'
                try simp only [Act.put, List.setIfInBounds_toArray, List.set_cons_zero, List.set_cons_succ]
                have hownA := hown0
                refine rd1 6 (fun K hK => ?_)
                go_simp
                refine hK.out _ _ (bel_alloc hHeld _) (fun hHeld' => ?_)
                clear hK K hHeld
                have hHeld := hHeld'
                clear hHeld'
                try simp only [Act.put, List.setIfInBounds_toArray, List.set_cons_zero, List.set_cons_succ]
                have hown1 := hownA.alloc (.cells #[.int .i64 f, .int .i64 t] 75)
                refine rd1 7 (fun K hK => ?_)
                refine step_app _ rfl _ _ _ rfl wE.heap.size 75 i0 (.agg #[.int .i64 0, .int .i64 0]) 2 16 Try.underlying32 hi0 hz0 hz1 hz2 rfl (by decide) _ 0 [] (by rfl) hown1 ⟨wD.heap.size + 1, 0, none⟩ 1 1 [.int .i64 f, .int .i64 t] (by rfl) (by rfl) (World.news_of_block (cs := #[.int .i64 f, .int .i64 t]) (by have h := heap_alloc_new (wD.alloc (.cells #[] 75)) (.cells #[.int .i64 f, .int .i64 t] 75); simpa using h)) (by simp [Value.oneCell']) (by unfold maxLen; omega) (by omega) hHeld.out.size ?_
                intro v2 wB hownB hgB
                refine hK.out _ _ (bel_grow hHeld hgB (fun k e => by have := hown1.lt k e; omega)) (fun hHeld' => ?_)
                clear hK K hHeld
                have hHeld := hHeld'
                clear hHeld'
                try simp only [Act.put, List.setIfInBounds_toArray, List.set_cons_zero, List.set_cons_succ]
                refine rd1 11 (fun K hK => ?_)
                obtain ⟨va2, vc2, rfl⟩ := own_shape hownB
                refine step_app0 _ rfl _ _ _ rfl wE.heap.size 75 i0 2 Try.underlying32 hi0 (.slice va2 (0 + 1) vc2) (0 + 1) _ (by rfl) hownB _ _ (by rfl) ?_
                refine hK.out _ _ (hHeld) (fun hHeld' => ?_)
                clear hK K hHeld
                have hHeld := hHeld'
                clear hHeld'
                try simp only [Act.put, List.setIfInBounds_toArray, List.set_cons_zero, List.set_cons_succ]
                refine rd1 12 (fun K hK => ?_)
                go_simp
                refine hK.out _ _ (hHeld) (fun hHeld' => ?_)
                clear hK K hHeld
                have hHeld := hHeld'
                clear hHeld'
                try simp only [Act.put, List.setIfInBounds_toArray, List.set_cons_zero, List.set_cons_succ]
                have HZ : Hid (AddOut w _ _ l ⟨f, t⟩ (.returned (.slice va2 (0 + 1) vc2)) wB) := HOut.out _ wB hownB hHeld
                clear hownB hgB
                refine wpAnyH_done (by kernel_rfl) ?_ _
                refine NoPanic.normal ?_
                go_wp2
                go_ret
                first | exact HZ.out | simpa using HZ.out
              · go_simp
                refine hK.out _ _ (bel_alloc hHeld _) (fun hHeld' => ?_)
                clear hK K hHeld
                have hHeld := hHeld'
                clear hHeld'
                try simp only [Act.put, List.setIfInBounds_toArray, List.set_cons_zero, List.set_cons_succ]
                have hown0b := hown0.alloc (.cells #[.int .i64 f, .int .i64 t] 75)
                have hblk : ((wD.alloc (.cells #[] 75)).alloc (.cells #[.int .i64 f, .int .i64 t] 75)).heap[wD.heap.size + 1]? = some (.cells #[.int .i64 f, .int .i64 t] 75) := by have h := heap_alloc_new (wD.alloc (.cells #[] 75)) (.cells #[.int .i64 f, .int .i64 t] 75); simpa using h
                refine rd1 4 (fun K hK => ?_)
                refine step_app0 _ rfl _ _ _ rfl wE.heap.size 75 i0 2 Try.underlying32 hi0 (.slice (some ⟨wD.heap.size, 0, none⟩) 0 0) 0 [] (by rfl) hown0b _ _ (by rfl) ?_
                refine hK.out _ _ (hHeld) (fun hHeld' => ?_)
                clear hK K hHeld
                have hHeld := hHeld'
                clear hHeld'
                try simp only [Act.put, List.setIfInBounds_toArray, List.set_cons_zero, List.set_cons_succ]
                have hownA := hown0b
                refine rd1 7 (fun K hK => ?_)
                refine step_app _ rfl _ _ _ rfl wE.heap.size 75 i0 (.agg #[.int .i64 0, .int .i64 0]) 2 16 Try.underlying32 hi0 hz0 hz1 hz2 rfl (by decide) _ 0 [] (by rfl) hown0b ⟨wD.heap.size + 1, 0, none⟩ 1 1 [.int .i64 f, .int .i64 t] (by rfl) (by rfl) (World.news_of_block (cs := #[.int .i64 f, .int .i64 t]) hblk) (by simp [Value.oneCell']) (by unfold maxLen; omega) (by omega) hHeld.out.size ?_
                intro v2 wB hownB hgB
                refine hK.out _ _ (bel_grow hHeld hgB (fun k e => by have := hown0b.lt k e; omega)) (fun hHeld' => ?_)
                clear hK K hHeld
                have hHeld := hHeld'
                clear hHeld'
                try simp only [Act.put, List.setIfInBounds_toArray, List.set_cons_zero, List.set_cons_succ]
                refine rd1 11 (fun K hK => ?_)
                obtain ⟨va2, vc2, rfl⟩ := own_shape hownB
                refine step_app0 _ rfl _ _ _ rfl wE.heap.size 75 i0 2 Try.underlying32 hi0 (.slice va2 (0 + 1) vc2) (0 + 1) _ (by rfl) hownB _ _ (by rfl) ?_
                refine hK.out _ _ (hHeld) (fun hHeld' => ?_)
                clear hK K hHeld
                have hHeld := hHeld'
                clear hHeld'
                try simp only [Act.put, List.setIfInBounds_toArray, List.set_cons_zero, List.set_cons_succ]
                refine rd1 12 (fun K hK => ?_)
                go_simp
                refine hK.out _ _ (hHeld) (fun hHeld' => ?_)
                clear hK K hHeld
                have hHeld := hHeld'
                clear hHeld'
                try simp only [Act.put, List.setIfInBounds_toArray, List.set_cons_zero, List.set_cons_succ]
                have HZ : Hid (AddOut w _ _ l ⟨f, t⟩ (.returned (.slice va2 (0 + 1) vc2)) wB) := HOut.out _ wB hownB hHeld
                clear hownB hgB
                refine wpAnyH_done (by kernel_rfl) ?_ _
                refine NoPanic.normal ?_
                go_wp2
                go_ret
                first | exact HZ.out | simpa using HZ.out
            · go_simp
              refine hK.out _ _ (bel_alloc hHeld _) (fun hHeld' => ?_)
              clear hK K hHeld
              have hHeld := hHeld'
              clear hHeld'
              try simp only [Act.put, List.setIfInBounds_toArray, List.set_cons_zero, List.set_cons_succ]
              refine rd1 0 (fun K hK => ?_)
              go_simp
              refine hK.out _ _ (bel_alloc hHeld _) (fun hHeld' => ?_)
              clear hK K hHeld
              have hHeld := hHeld'
              clear hHeld'
              try simp only [Act.put, List.setIfInBounds_toArray, List.set_cons_zero, List.set_cons_succ]
              have hown0 := World.ownsRow_made (e := 75) (size := 2) (base := wE.heap.size) (wD.alloc (.cells #[.int .i64 f, .int .i64 t] 75)) #[] 0 (by have := HsD.out; simp; omega) (by unfold maxLen; omega) (by rfl)
              have hsz1 : (wD.alloc (.cells #[.int .i64 f, .int .i64 t] 75)).heap.size = wD.heap.size + 1 := by simp
              rw [hsz1] at hown0
              have hblk : ((wD.alloc (.cells #[.int .i64 f, .int .i64 t] 75)).alloc (.cells #[] 75)).heap[wD.heap.size]? = some (.cells #[.int .i64 f, .int .i64 t] 75) := by have h := heap_alloc_new wD (.cells #[.int .i64 f, .int .i64 t] 75); have h2 := heap_alloc_old (wD.alloc (.cells #[.int .i64 f, .int .i64 t] 75)) (.cells #[] 75) (r := wD.heap.size) (by simp); exact h2.trans h
              refine rd1 4 (fun K hK => ?_)
              refine step_app0 _ rfl _ _ _ rfl wE.heap.size 75 i0 2 Try.underlying32 hi0 (.slice (some ⟨wD.heap.size + 1, 0, none⟩) 0 0) 0 [] (by rfl) hown0 _ _ (by rfl) ?_
              refine hK.out _ _ (hHeld) (fun hHeld' => ?_)
              clear hK K hHeld
              have hHeld := hHeld'
              clear hHeld'
              try simp only [Act.put, List.setIfInBounds_toArray, List.set_cons_zero, List.set_cons_succ]
              have hownA := hown0
              refine rd1 7 (fun K hK => ?_)
              refine step_app _ rfl _ _ _ rfl wE.heap.size 75 i0 (.agg #[.int .i64 0, .int .i64 0]) 2 16 Try.underlying32 hi0 hz0 hz1 hz2 rfl (by decide) _ 0 [] (by rfl) hown0 ⟨wD.heap.size, 0, none⟩ 1 1 [.int .i64 f, .int .i64 t] (by rfl) (by rfl) (World.news_of_block (cs := #[.int .i64 f, .int .i64 t]) hblk) (by simp [Value.oneCell']) (by unfold maxLen; omega) (by omega) hHeld.out.size ?_
              intro v2 wB hownB hgB
              refine hK.out _ _ (bel_grow hHeld hgB (fun k e => by have := hown0.lt k e; omega)) (fun hHeld' => ?_)
              clear hK K hHeld
              have hHeld := hHeld'
              clear hHeld'
              try simp only [Act.put, List.setIfInBounds_toArray, List.set_cons_zero, List.set_cons_succ]
              refine rd1 11 (fun K hK => ?_)
              obtain ⟨va2, vc2, rfl⟩ := own_shape hownB
              refine step_app0 _ rfl _ _ _ rfl wE.heap.size 75 i0 2 Try.underlying32 hi0 (.slice va2 (0 + 1) vc2) (0 + 1) _ (by rfl) hownB _ _ (by rfl) ?_
              refine hK.out _ _ (hHeld) (fun hHeld' => ?_)
              clear hK K hHeld
              have hHeld := hHeld'
              clear hHeld'
              try simp only [Act.put, List.setIfInBounds_toArray, List.set_cons_zero, List.set_cons_succ]
              refine rd1 12 (fun K hK => ?_)
              go_simp
              refine hK.out _ _ (hHeld) (fun hHeld' => ?_)
              clear hK K hHeld
              have hHeld := hHeld'
              clear hHeld'
              try simp only [Act.put, List.setIfInBounds_toArray, List.set_cons_zero, List.set_cons_succ]
              have HZ : Hid (AddOut w _ _ l ⟨f, t⟩ (.returned (.slice va2 (0 + 1) vc2)) wB) := HOut.out _ wB hownB hHeld
              clear hownB hgB
              refine wpAnyH_done (by kernel_rfl) ?_ _
              refine NoPanic.normal ?_
              go_wp2
              go_ret
              first | exact HZ.out | simpa using HZ.out
          | some ad =>
            refine wp_region_noPanic ?_
            refine wp_region_held_drew (S := (fun w' => Bel wE w')) (by kernel_rfl) (Bel.refl _).drew (fun hHeld => ?_)
            generalize wE.drew = wD at hHeld ⊢
            refine wpAnyH_take (S := (fun w' => Bel wE w')) (i := 1) (oi := { dst := some 40, op := Go.Op.move (Go.Operand.tmp 0), type := 32, pos := "l09_graph.go:161", after := #[], guard := none }) (v := ?vz15) rfl (by kernel_rfl) (by kernel_rfl) (by kernel_rfl) (fun _ _ _ h => h) (Or.inl ⟨by rfl, ?hz15⟩) hHeld ?rz15
            case hz15 => (intro w hSw; (try dsimp only at hSw); (try obtain ⟨s2, s3⟩ := hS w hSw); go_simp; try with_reducible rfl)
            try simp only [Act.put, List.setIfInBounds_toArray, List.set_cons_zero, List.set_cons_succ]
            refine wpAnyH_take (S := (fun w' => Bel wE w')) (i := 2) (oi := { dst := some 41, op := Go.Op.move (Go.Operand.tmp 5), type := 3, pos := "l09_graph.go:161", after := #[], guard := none }) (v := ?vz16) rfl (by kernel_rfl) (by kernel_rfl) (by kernel_rfl) (fun _ _ _ h => h) (Or.inl ⟨by rfl, ?hz16⟩) hHeld ?rz16
            case hz16 => (intro w hSw; (try dsimp only at hSw); (try obtain ⟨s2, s3⟩ := hS w hSw); go_simp; try with_reducible rfl)
            try simp only [Act.put, List.setIfInBounds_toArray, List.set_cons_zero, List.set_cons_succ]
            refine wpAnyH_take (S := (fun w' => Bel wE w')) (i := 3) (oi := { dst := some 42, op := Go.Op.slice 32 (Go.Operand.tmp 40) none (some (Go.Operand.tmp 41)) none, type := 32, pos := "l09_graph.go:161", after := #[{ on := 1, ground := Go.Ground.data }, { on := 2, ground := Go.Ground.data }], guard := none }) (v := ?vz17) rfl (by kernel_rfl) (by kernel_rfl) (by kernel_rfl) (fun _ _ _ h => h) (Or.inl ⟨by rfl, ?hz17⟩) hHeld ?rz17
            case hz17 => (intro w hSw; (try dsimp only at hSw); (try obtain ⟨s2, s3⟩ := hS w hSw); go_simp; try with_reducible rfl)
            try simp only [Act.put, List.setIfInBounds_toArray, List.set_cons_zero, List.set_cons_succ]
            refine wpAnyH_take (S := (fun w' => Bel wE w')) (i := 5) (oi := { dst := some 44, op := Go.Op.load 75 (Go.Operand.tmp 3), type := 75, pos := "l09_graph.go:161", after := #[], guard := none }) (v := ?vz18) rfl (by kernel_rfl) (by kernel_rfl) (by kernel_rfl) (fun _ _ _ h => h) (Or.inl ⟨by rfl, ?hz18⟩) hHeld ?rz18
            case hz18 => (intro w hSw; (try dsimp only at hSw); (try obtain ⟨s2, s3⟩ := hS w hSw); go_simp; try with_reducible rfl)
            try simp only [Act.put, List.setIfInBounds_toArray, List.set_cons_zero, List.set_cons_succ]
            refine wpAnyH_take (S := (fun w' => Bel wE w')) (i := 8) (oi := { dst := some 47, op := Go.Op.move (Go.Operand.tmp 0), type := 32, pos := "l09_graph.go:161", after := #[], guard := none }) (v := ?vz19) rfl (by kernel_rfl) (by kernel_rfl) (by kernel_rfl) (fun _ _ _ h => h) (Or.inl ⟨by rfl, ?hz19⟩) hHeld ?rz19
            case hz19 => (intro w hSw; (try dsimp only at hSw); (try obtain ⟨s2, s3⟩ := hS w hSw); go_simp; try with_reducible rfl)
            try simp only [Act.put, List.setIfInBounds_toArray, List.set_cons_zero, List.set_cons_succ]
            refine wpAnyH_take (S := (fun w' => Bel wE w')) (i := 9) (oi := { dst := some 48, op := Go.Op.move (Go.Operand.tmp 5), type := 3, pos := "l09_graph.go:161", after := #[], guard := none }) (v := ?vz20) rfl (by kernel_rfl) (by kernel_rfl) (by kernel_rfl) (fun _ _ _ h => h) (Or.inl ⟨by rfl, ?hz20⟩) hHeld ?rz20
            case hz20 => (intro w hSw; (try dsimp only at hSw); (try obtain ⟨s2, s3⟩ := hS w hSw); go_simp; try with_reducible rfl)
            try simp only [Act.put, List.setIfInBounds_toArray, List.set_cons_zero, List.set_cons_succ]
            refine wpAnyH_take (S := (fun w' => Bel wE w')) (i := 10) (oi := { dst := some 49, op := Go.Op.slice 32 (Go.Operand.tmp 47) (some (Go.Operand.tmp 48)) none none, type := 32, pos := "l09_graph.go:161", after := #[{ on := 8, ground := Go.Ground.data }, { on := 9, ground := Go.Ground.data }], guard := none }) (v := ?vz21) rfl (by kernel_rfl) (by kernel_rfl) (by kernel_rfl) (fun _ _ _ h => h) (Or.inl ⟨by rfl, ?hz21⟩) hHeld ?rz21
            case hz21 => (intro w hSw; (try dsimp only at hSw); (try obtain ⟨s2, s3⟩ := hS w hSw); go_simp; try with_reducible rfl)
            try simp only [Act.put, List.setIfInBounds_toArray, List.set_cons_zero, List.set_cons_succ]
            have HsD : Hid (wE.heap.size ≤ wD.heap.size) := hHeld.out.size
            refine rd2 0 6 (fun K hK => ?_) (fun K hK => ?_)
            · go_simp
              refine hK.out _ _ (bel_alloc hHeld _) (fun hHeld' => ?_)
              clear hK K hHeld
              have hHeld := hHeld'
              clear hHeld'
              try simp only [Act.put, List.setIfInBounds_toArray, List.set_cons_zero, List.set_cons_succ]
              have hown0 := World.ownsRow_made (e := 75) (size := 2) (base := wE.heap.size) wD #[] 0 HsD.out (by unfold maxLen; omega) (by rfl)
              refine rd2 4 6 (fun K hK => ?_) (fun K hK => ?_)
              · refine step_app0 _ rfl _ _ _ rfl wE.heap.size 75 i0 2 Try.underlying32 hi0 (.slice (some ⟨wD.heap.size, 0, none⟩) 0 0) 0 [] (by rfl) hown0 _ _ (by rfl) ?_
                refine hK.out _ _ (hHeld) (fun hHeld' => ?_)
                clear hK K hHeld
                have hHeld := hHeld'
                clear hHeld'
                try simp only [Act.put, List.setIfInBounds_toArray, List.set_cons_zero, List.set_cons_succ]
                have hownA := hown0
                refine rd1 6 (fun K hK => ?_)
                go_simp
                refine hK.out _ _ (bel_alloc hHeld _) (fun hHeld' => ?_)
                clear hK K hHeld
                have hHeld := hHeld'
                clear hHeld'
                try simp only [Act.put, List.setIfInBounds_toArray, List.set_cons_zero, List.set_cons_succ]
                have hown1 := hownA.alloc (.cells #[.int .i64 f, .int .i64 t] 75)
                refine rd1 7 (fun K hK => ?_)
                refine step_app _ rfl _ _ _ rfl wE.heap.size 75 i0 (.agg #[.int .i64 0, .int .i64 0]) 2 16 Try.underlying32 hi0 hz0 hz1 hz2 rfl (by decide) _ 0 [] (by rfl) hown1 ⟨wD.heap.size + 1, 0, none⟩ 1 1 [.int .i64 f, .int .i64 t] (by rfl) (by rfl) (World.news_of_block (cs := #[.int .i64 f, .int .i64 t]) (by have h := heap_alloc_new (wD.alloc (.cells #[] 75)) (.cells #[.int .i64 f, .int .i64 t] 75); simpa using h)) (by simp [Value.oneCell']) (by unfold maxLen; omega) (by omega) hHeld.out.size ?_
                intro v2 wB hownB hgB
                refine hK.out _ _ (bel_grow hHeld hgB (fun k e => by have := hown1.lt k e; omega)) (fun hHeld' => ?_)
                clear hK K hHeld
                have hHeld := hHeld'
                clear hHeld'
                try simp only [Act.put, List.setIfInBounds_toArray, List.set_cons_zero, List.set_cons_succ]
                refine rd1 11 (fun K hK => ?_)
                obtain ⟨va2, vc2, rfl⟩ := own_shape hownB
                refine step_app0 _ rfl _ _ _ rfl wE.heap.size 75 i0 2 Try.underlying32 hi0 (.slice va2 (0 + 1) vc2) (0 + 1) _ (by rfl) hownB _ _ (by rfl) ?_
                refine hK.out _ _ (hHeld) (fun hHeld' => ?_)
                clear hK K hHeld
                have hHeld := hHeld'
                clear hHeld'
                try simp only [Act.put, List.setIfInBounds_toArray, List.set_cons_zero, List.set_cons_succ]
                refine rd1 12 (fun K hK => ?_)
                go_simp
                refine hK.out _ _ (hHeld) (fun hHeld' => ?_)
                clear hK K hHeld
                have hHeld := hHeld'
                clear hHeld'
                try simp only [Act.put, List.setIfInBounds_toArray, List.set_cons_zero, List.set_cons_succ]
                have HZ : Hid (AddOut w _ _ l ⟨f, t⟩ (.returned (.slice va2 (0 + 1) vc2)) wB) := HOut.out _ wB hownB hHeld
                clear hownB hgB
                refine wpAnyH_done (by kernel_rfl) ?_ _
                refine NoPanic.normal ?_
                go_wp2
                go_ret
                first | exact HZ.out | simpa using HZ.out
              · go_simp
                refine hK.out _ _ (bel_alloc hHeld _) (fun hHeld' => ?_)
                clear hK K hHeld
                have hHeld := hHeld'
                clear hHeld'
                try simp only [Act.put, List.setIfInBounds_toArray, List.set_cons_zero, List.set_cons_succ]
                have hown0b := hown0.alloc (.cells #[.int .i64 f, .int .i64 t] 75)
                have hblk : ((wD.alloc (.cells #[] 75)).alloc (.cells #[.int .i64 f, .int .i64 t] 75)).heap[wD.heap.size + 1]? = some (.cells #[.int .i64 f, .int .i64 t] 75) := by have h := heap_alloc_new (wD.alloc (.cells #[] 75)) (.cells #[.int .i64 f, .int .i64 t] 75); simpa using h
                refine rd1 4 (fun K hK => ?_)
                refine step_app0 _ rfl _ _ _ rfl wE.heap.size 75 i0 2 Try.underlying32 hi0 (.slice (some ⟨wD.heap.size, 0, none⟩) 0 0) 0 [] (by rfl) hown0b _ _ (by rfl) ?_
                refine hK.out _ _ (hHeld) (fun hHeld' => ?_)
                clear hK K hHeld
                have hHeld := hHeld'
                clear hHeld'
                try simp only [Act.put, List.setIfInBounds_toArray, List.set_cons_zero, List.set_cons_succ]
                have hownA := hown0b
                refine rd1 7 (fun K hK => ?_)
                refine step_app _ rfl _ _ _ rfl wE.heap.size 75 i0 (.agg #[.int .i64 0, .int .i64 0]) 2 16 Try.underlying32 hi0 hz0 hz1 hz2 rfl (by decide) _ 0 [] (by rfl) hown0b ⟨wD.heap.size + 1, 0, none⟩ 1 1 [.int .i64 f, .int .i64 t] (by rfl) (by rfl) (World.news_of_block (cs := #[.int .i64 f, .int .i64 t]) hblk) (by simp [Value.oneCell']) (by unfold maxLen; omega) (by omega) hHeld.out.size ?_
                intro v2 wB hownB hgB
                refine hK.out _ _ (bel_grow hHeld hgB (fun k e => by have := hown0b.lt k e; omega)) (fun hHeld' => ?_)
                clear hK K hHeld
                have hHeld := hHeld'
                clear hHeld'
                try simp only [Act.put, List.setIfInBounds_toArray, List.set_cons_zero, List.set_cons_succ]
                refine rd1 11 (fun K hK => ?_)
                obtain ⟨va2, vc2, rfl⟩ := own_shape hownB
                refine step_app0 _ rfl _ _ _ rfl wE.heap.size 75 i0 2 Try.underlying32 hi0 (.slice va2 (0 + 1) vc2) (0 + 1) _ (by rfl) hownB _ _ (by rfl) ?_
                refine hK.out _ _ (hHeld) (fun hHeld' => ?_)
                clear hK K hHeld
                have hHeld := hHeld'
                clear hHeld'
                try simp only [Act.put, List.setIfInBounds_toArray, List.set_cons_zero, List.set_cons_succ]
                refine rd1 12 (fun K hK => ?_)
                go_simp
                refine hK.out _ _ (hHeld) (fun hHeld' => ?_)
                clear hK K hHeld
                have hHeld := hHeld'
                clear hHeld'
                try simp only [Act.put, List.setIfInBounds_toArray, List.set_cons_zero, List.set_cons_succ]
                have HZ : Hid (AddOut w _ _ l ⟨f, t⟩ (.returned (.slice va2 (0 + 1) vc2)) wB) := HOut.out _ wB hownB hHeld
                clear hownB hgB
                refine wpAnyH_done (by kernel_rfl) ?_ _
                refine NoPanic.normal ?_
                go_wp2
                go_ret
                first | exact HZ.out | simpa using HZ.out
            · go_simp
              refine hK.out _ _ (bel_alloc hHeld _) (fun hHeld' => ?_)
              clear hK K hHeld
              have hHeld := hHeld'
              clear hHeld'
              try simp only [Act.put, List.setIfInBounds_toArray, List.set_cons_zero, List.set_cons_succ]
              refine rd1 0 (fun K hK => ?_)
              go_simp
              refine hK.out _ _ (bel_alloc hHeld _) (fun hHeld' => ?_)
              clear hK K hHeld
              have hHeld := hHeld'
              clear hHeld'
              try simp only [Act.put, List.setIfInBounds_toArray, List.set_cons_zero, List.set_cons_succ]
              have hown0 := World.ownsRow_made (e := 75) (size := 2) (base := wE.heap.size) (wD.alloc (.cells #[.int .i64 f, .int .i64 t] 75)) #[] 0 (by have := HsD.out; simp; omega) (by unfold maxLen; omega) (by rfl)
              have hsz1 : (wD.alloc (.cells #[.int .i64 f, .int .i64 t] 75)).heap.size = wD.heap.size + 1 := by simp
              rw [hsz1] at hown0
              have hblk : ((wD.alloc (.cells #[.int .i64 f, .int .i64 t] 75)).alloc (.cells #[] 75)).heap[wD.heap.size]? = some (.cells #[.int .i64 f, .int .i64 t] 75) := by have h := heap_alloc_new wD (.cells #[.int .i64 f, .int .i64 t] 75); have h2 := heap_alloc_old (wD.alloc (.cells #[.int .i64 f, .int .i64 t] 75)) (.cells #[] 75) (r := wD.heap.size) (by simp); exact h2.trans h
              refine rd1 4 (fun K hK => ?_)
              refine step_app0 _ rfl _ _ _ rfl wE.heap.size 75 i0 2 Try.underlying32 hi0 (.slice (some ⟨wD.heap.size + 1, 0, none⟩) 0 0) 0 [] (by rfl) hown0 _ _ (by rfl) ?_
              refine hK.out _ _ (hHeld) (fun hHeld' => ?_)
              clear hK K hHeld
              have hHeld := hHeld'
              clear hHeld'
              try simp only [Act.put, List.setIfInBounds_toArray, List.set_cons_zero, List.set_cons_succ]
              have hownA := hown0
              refine rd1 7 (fun K hK => ?_)
              refine step_app _ rfl _ _ _ rfl wE.heap.size 75 i0 (.agg #[.int .i64 0, .int .i64 0]) 2 16 Try.underlying32 hi0 hz0 hz1 hz2 rfl (by decide) _ 0 [] (by rfl) hown0 ⟨wD.heap.size, 0, none⟩ 1 1 [.int .i64 f, .int .i64 t] (by rfl) (by rfl) (World.news_of_block (cs := #[.int .i64 f, .int .i64 t]) hblk) (by simp [Value.oneCell']) (by unfold maxLen; omega) (by omega) hHeld.out.size ?_
              intro v2 wB hownB hgB
              refine hK.out _ _ (bel_grow hHeld hgB (fun k e => by have := hown0.lt k e; omega)) (fun hHeld' => ?_)
              clear hK K hHeld
              have hHeld := hHeld'
              clear hHeld'
              try simp only [Act.put, List.setIfInBounds_toArray, List.set_cons_zero, List.set_cons_succ]
              refine rd1 11 (fun K hK => ?_)
              obtain ⟨va2, vc2, rfl⟩ := own_shape hownB
              refine step_app0 _ rfl _ _ _ rfl wE.heap.size 75 i0 2 Try.underlying32 hi0 (.slice va2 (0 + 1) vc2) (0 + 1) _ (by rfl) hownB _ _ (by rfl) ?_
              refine hK.out _ _ (hHeld) (fun hHeld' => ?_)
              clear hK K hHeld
              have hHeld := hHeld'
              clear hHeld'
              try simp only [Act.put, List.setIfInBounds_toArray, List.set_cons_zero, List.set_cons_succ]
              refine rd1 12 (fun K hK => ?_)
              go_simp
              refine hK.out _ _ (hHeld) (fun hHeld' => ?_)
              clear hK K hHeld
              have hHeld := hHeld'
              clear hHeld'
              try simp only [Act.put, List.setIfInBounds_toArray, List.set_cons_zero, List.set_cons_succ]
              have HZ : Hid (AddOut w _ _ l ⟨f, t⟩ (.returned (.slice va2 (0 + 1) vc2)) wB) := HOut.out _ wB hownB hHeld
              clear hownB hgB
              refine wpAnyH_done (by kernel_rfl) ?_ _
              refine NoPanic.normal ?_
              go_wp2
              go_ret
              first | exact HZ.out | simpa using HZ.out
        · have hkl : 0 < l.length := by rw [Hn.out]; omega
          obtain ⟨b, off, ff, rfl, hb, hx⟩ := (hTW.bel banE hbE).out hkl
          have Hl1 : Hid ((recs (csL 2 bnCs (l.take p)) (l.take p).length).length = p * 2) := show (recs (csL 2 bnCs (l.take p)) (l.take p).length).length = p * 2 by rw [recs_len (csL_len banF _), List.length_take, Hn.out, Nat.min_self]
          have HX : Hid (∀ w', Bel wE w' → ∃ f' : Nat → List Nat, ∀ i (h : i < l.length), BanE w' b (off + i * 2) l[i] (f' i)) := show ∀ w', Bel wE w' → ∃ f' : Nat → List Nat, ∀ i (h : i < l.length), BanE w' b (off + i * 2) l[i] (f' i) from fun w' h => by
            obtain ⟨b', off', f', e, _, hx'⟩ := (hTW.bel banE (bel_step hbE h)).out hkl
            injection e with e
            injection e with e1 e2
            subst e1; subst e2
            exact ⟨f', hx'⟩
          have HN1 : Hid (∀ w', Bel wE w' → ∀ j u, (recs (csL 2 bnCs (l.take p)) (l.take p).length)[j]? = some u → w'.cell? ((⟨b, off, none⟩ : Addr).add j) = some u) := show ∀ w', Bel wE w' → ∀ j u, (recs (csL 2 bnCs (l.take p)) (l.take p).length)[j]? = some u → w'.cell? ((⟨b, off, none⟩ : Addr).add j) = some u from fun w' h => by
            obtain ⟨f', hx'⟩ := HX.out w' h
            exact banF.news (by decide) (f := f') fun i hi => by
              have hi' : i < l.length := by rw [List.length_take] at hi; omega
              rw [List.getElem_take]; exact hx' i hi'
          have HOut : Hid (∀ v3 wC, wC.ownsRow wE.heap.size 75 2 v3 (0 + p + 1) (([] ++ recs (csL 2 bnCs (l.take p)) (l.take p).length) ++ [.int .i64 f, .int .i64 t]) → Bel wE wC → AddOut w (some ⟨b, off, none⟩) c2 l ⟨f, t⟩ (.returned v3) wC) :=
            add_out2 HE.out Hn.out hf ht (fun x hx => by obtain ⟨i, hi, rfl⟩ := List.getElem_of_mem hx; obtain ⟨f', hx'⟩ := HX.out wE (Bel.refl _); exact (banF.get (hx' i hi)).1) (bel_step hBW hbE)
          have hpc : (p : Int) ≤ (c2 : Int) := by omega
          clear hx
          by_cases hcn : c2 = p
          · have hcn := hcn.symm
            subst hcn
            refine wp_region_noPanic ?_
            refine wp_region_held_drew (S := (fun w' => Bel wE w')) (by kernel_rfl) (Bel.refl _).drew (fun hHeld => ?_)
            generalize wE.drew = wD at hHeld ⊢
            refine wpAnyH_take (S := (fun w' => Bel wE w')) (i := 1) (oi := { dst := some 40, op := Go.Op.move (Go.Operand.tmp 0), type := 32, pos := "l09_graph.go:161", after := #[], guard := none }) (v := ?vz22) rfl (by kernel_rfl) (by kernel_rfl) (by kernel_rfl) (fun _ _ _ h => h) (Or.inl ⟨by rfl, ?hz22⟩) hHeld ?rz22
            case hz22 => (intro w hSw; (try dsimp only at hSw); (try obtain ⟨s2, s3⟩ := hS w hSw); go_simp; try with_reducible rfl)
            try simp only [Act.put, List.setIfInBounds_toArray, List.set_cons_zero, List.set_cons_succ]
            refine wpAnyH_take (S := (fun w' => Bel wE w')) (i := 2) (oi := { dst := some 41, op := Go.Op.move (Go.Operand.tmp 5), type := 3, pos := "l09_graph.go:161", after := #[], guard := none }) (v := ?vz23) rfl (by kernel_rfl) (by kernel_rfl) (by kernel_rfl) (fun _ _ _ h => h) (Or.inl ⟨by rfl, ?hz23⟩) hHeld ?rz23
            case hz23 => (intro w hSw; (try dsimp only at hSw); (try obtain ⟨s2, s3⟩ := hS w hSw); go_simp; try with_reducible rfl)
            try simp only [Act.put, List.setIfInBounds_toArray, List.set_cons_zero, List.set_cons_succ]
            refine wpAnyH_take (S := (fun w' => Bel wE w')) (i := 3) (oi := { dst := some 42, op := Go.Op.slice 32 (Go.Operand.tmp 40) none (some (Go.Operand.tmp 41)) none, type := 32, pos := "l09_graph.go:161", after := #[{ on := 1, ground := Go.Ground.data }, { on := 2, ground := Go.Ground.data }], guard := none }) (v := ?vz24) rfl (by kernel_rfl) (by kernel_rfl) (by kernel_rfl) (fun _ _ _ h => h) (Or.inl ⟨by rfl, ?hz24⟩) hHeld ?rz24
            case hz24 => (intro w hSw; (try dsimp only at hSw); (try obtain ⟨s2, s3⟩ := hS w hSw); go_simp; try with_reducible rfl)
            try simp only [Act.put, List.setIfInBounds_toArray, List.set_cons_zero, List.set_cons_succ]
            refine wpAnyH_take (S := (fun w' => Bel wE w')) (i := 5) (oi := { dst := some 44, op := Go.Op.load 75 (Go.Operand.tmp 3), type := 75, pos := "l09_graph.go:161", after := #[], guard := none }) (v := ?vz25) rfl (by kernel_rfl) (by kernel_rfl) (by kernel_rfl) (fun _ _ _ h => h) (Or.inl ⟨by rfl, ?hz25⟩) hHeld ?rz25
            case hz25 => (intro w hSw; (try dsimp only at hSw); (try obtain ⟨s2, s3⟩ := hS w hSw); go_simp; try with_reducible rfl)
            try simp only [Act.put, List.setIfInBounds_toArray, List.set_cons_zero, List.set_cons_succ]
            refine wpAnyH_take (S := (fun w' => Bel wE w')) (i := 8) (oi := { dst := some 47, op := Go.Op.move (Go.Operand.tmp 0), type := 32, pos := "l09_graph.go:161", after := #[], guard := none }) (v := ?vz26) rfl (by kernel_rfl) (by kernel_rfl) (by kernel_rfl) (fun _ _ _ h => h) (Or.inl ⟨by rfl, ?hz26⟩) hHeld ?rz26
            case hz26 => (intro w hSw; (try dsimp only at hSw); (try obtain ⟨s2, s3⟩ := hS w hSw); go_simp; try with_reducible rfl)
            try simp only [Act.put, List.setIfInBounds_toArray, List.set_cons_zero, List.set_cons_succ]
            refine wpAnyH_take (S := (fun w' => Bel wE w')) (i := 9) (oi := { dst := some 48, op := Go.Op.move (Go.Operand.tmp 5), type := 3, pos := "l09_graph.go:161", after := #[], guard := none }) (v := ?vz27) rfl (by kernel_rfl) (by kernel_rfl) (by kernel_rfl) (fun _ _ _ h => h) (Or.inl ⟨by rfl, ?hz27⟩) hHeld ?rz27
            case hz27 => (intro w hSw; (try dsimp only at hSw); (try obtain ⟨s2, s3⟩ := hS w hSw); go_simp; try with_reducible rfl)
            try simp only [Act.put, List.setIfInBounds_toArray, List.set_cons_zero, List.set_cons_succ]
            refine wpAnyH_take (S := (fun w' => Bel wE w')) (i := 10) (oi := { dst := some 49, op := Go.Op.slice 32 (Go.Operand.tmp 47) (some (Go.Operand.tmp 48)) none none, type := 32, pos := "l09_graph.go:161", after := #[{ on := 8, ground := Go.Ground.data }, { on := 9, ground := Go.Ground.data }], guard := none }) (v := .slice (some ⟨b, off, none⟩) 0 0) rfl (by kernel_rfl) (by kernel_rfl) (by kernel_rfl) (fun _ _ _ h => h) (Or.inl ⟨by rfl, ?hz28⟩) hHeld ?rz28
            case hz28 => (intro w hSw; (try dsimp only at hSw); go_simp; first | done | (intro h; omega))
            try simp only [Act.put, List.setIfInBounds_toArray, List.set_cons_zero, List.set_cons_succ]
            have HsD : Hid (wE.heap.size ≤ wD.heap.size) := hHeld.out.size
            refine rd2 0 6 (fun K hK => ?_) (fun K hK => ?_)
            · go_simp
              refine hK.out _ _ (bel_alloc hHeld _) (fun hHeld' => ?_)
              clear hK K hHeld
              have hHeld := hHeld'
              clear hHeld'
              try simp only [Act.put, List.setIfInBounds_toArray, List.set_cons_zero, List.set_cons_succ]
              have hown0 := World.ownsRow_made (e := 75) (size := 2) (base := wE.heap.size) wD #[] 0 HsD.out (by unfold maxLen; omega) (by rfl)
              refine rd2 4 6 (fun K hK => ?_) (fun K hK => ?_)
              · refine step_app _ rfl _ _ _ rfl wE.heap.size 75 i0 (.agg #[.int .i64 0, .int .i64 0]) 2 16 Try.underlying32 hi0 hz0 hz1 hz2 rfl (by decide) (.slice (some ⟨wD.heap.size, 0, none⟩) 0 0) 0 [] (by rfl) hown0 ⟨b, off, none⟩ p _ (recs (csL 2 bnCs (l.take p)) (l.take p).length) (by rfl) Hl1.out (HN1.out _ (hHeld)) (banF.ones _) (by unfold maxLen; omega) (by omega) hHeld.out.size ?_
                intro v1 wA hownA hgA
                refine hK.out _ _ (bel_grow hHeld hgA (fun k e => by have := hown0.lt k e; omega)) (fun hHeld' => ?_)
                clear hK K hHeld
                have hHeld := hHeld'
                clear hHeld'
                try simp only [Act.put, List.setIfInBounds_toArray, List.set_cons_zero, List.set_cons_succ]
                refine rd1 6 (fun K hK => ?_)
                go_simp
                refine hK.out _ _ (bel_alloc hHeld _) (fun hHeld' => ?_)
                clear hK K hHeld
                have hHeld := hHeld'
                clear hHeld'
                try simp only [Act.put, List.setIfInBounds_toArray, List.set_cons_zero, List.set_cons_succ]
                have hown1 := hownA.alloc (.cells #[.int .i64 f, .int .i64 t] 75)
                clear hownA hgA
                refine rd1 7 (fun K hK => ?_)
                obtain ⟨va1, vc1, rfl⟩ := own_shape hown1
                refine step_app _ rfl _ _ _ rfl wE.heap.size 75 i0 (.agg #[.int .i64 0, .int .i64 0]) 2 16 Try.underlying32 hi0 hz0 hz1 hz2 rfl (by decide) (.slice va1 (0 + p) vc1) (0 + p) _ (by rfl) hown1 ⟨wA.heap.size, 0, none⟩ 1 1 [.int .i64 f, .int .i64 t] (by rfl) (by rfl) (World.news_of_block (cs := #[.int .i64 f, .int .i64 t]) (heap_alloc_new wA _)) (by simp [Value.oneCell']) (by unfold maxLen; omega) (by omega) hHeld.out.size ?_
                intro v2 wB hownB hgB
                refine hK.out _ _ (bel_grow hHeld hgB (fun k e => by have := hown1.lt k e; omega)) (fun hHeld' => ?_)
                clear hK K hHeld
                have hHeld := hHeld'
                clear hHeld'
                try simp only [Act.put, List.setIfInBounds_toArray, List.set_cons_zero, List.set_cons_succ]
                clear hown1
                refine rd1 11 (fun K hK => ?_)
                obtain ⟨va2, vc2, rfl⟩ := own_shape hownB
                refine step_app0 _ rfl _ _ _ rfl wE.heap.size 75 i0 2 Try.underlying32 hi0 (.slice va2 (0 + p + 1) vc2) (0 + p + 1) _ (by rfl) hownB _ _ (by rfl) ?_
                refine hK.out _ _ (hHeld) (fun hHeld' => ?_)
                clear hK K hHeld
                have hHeld := hHeld'
                clear hHeld'
                try simp only [Act.put, List.setIfInBounds_toArray, List.set_cons_zero, List.set_cons_succ]
                refine rd1 12 (fun K hK => ?_)
                go_simp
                refine hK.out _ _ (hHeld) (fun hHeld' => ?_)
                clear hK K hHeld
                have hHeld := hHeld'
                clear hHeld'
                try simp only [Act.put, List.setIfInBounds_toArray, List.set_cons_zero, List.set_cons_succ]
                have HZ : Hid (AddOut w _ _ l ⟨f, t⟩ (.returned (.slice va2 (0 + p + 1) vc2)) wB) := HOut.out _ wB hownB hHeld
                clear hownB hgB
                refine wpAnyH_done (by kernel_rfl) ?_ _
                refine NoPanic.normal ?_
                go_wp2
                go_ret
                first | exact HZ.out | simpa using HZ.out
              · go_simp
                refine hK.out _ _ (bel_alloc hHeld _) (fun hHeld' => ?_)
                clear hK K hHeld
                have hHeld := hHeld'
                clear hHeld'
                try simp only [Act.put, List.setIfInBounds_toArray, List.set_cons_zero, List.set_cons_succ]
                have hown0b := hown0.alloc (.cells #[.int .i64 f, .int .i64 t] 75)
                have hblk : ((wD.alloc (.cells #[] 75)).alloc (.cells #[.int .i64 f, .int .i64 t] 75)).heap[wD.heap.size + 1]? = some (.cells #[.int .i64 f, .int .i64 t] 75) := by have h := heap_alloc_new (wD.alloc (.cells #[] 75)) (.cells #[.int .i64 f, .int .i64 t] 75); simpa using h
                refine rd1 4 (fun K hK => ?_)
                refine step_app _ rfl _ _ _ rfl wE.heap.size 75 i0 (.agg #[.int .i64 0, .int .i64 0]) 2 16 Try.underlying32 hi0 hz0 hz1 hz2 rfl (by decide) (.slice (some ⟨wD.heap.size, 0, none⟩) 0 0) 0 [] (by rfl) hown0b ⟨b, off, none⟩ p _ (recs (csL 2 bnCs (l.take p)) (l.take p).length) (by rfl) Hl1.out (HN1.out _ (hHeld)) (banF.ones _) (by unfold maxLen; omega) (by omega) hHeld.out.size ?_
                intro v1 wA hownA hgA
                refine hK.out _ _ (bel_grow hHeld hgA (fun k e => by have := hown0b.lt k e; omega)) (fun hHeld' => ?_)
                clear hK K hHeld
                have hHeld := hHeld'
                clear hHeld'
                try simp only [Act.put, List.setIfInBounds_toArray, List.set_cons_zero, List.set_cons_succ]
                have hblk1 := (hgA.block (wD.heap.size + 1) (by simp) (by simp [Value.ownBlock])).trans hblk
                clear hgA
                refine rd1 7 (fun K hK => ?_)
                obtain ⟨va1, vc1, rfl⟩ := own_shape hownA
                refine step_app _ rfl _ _ _ rfl wE.heap.size 75 i0 (.agg #[.int .i64 0, .int .i64 0]) 2 16 Try.underlying32 hi0 hz0 hz1 hz2 rfl (by decide) (.slice va1 (0 + p) vc1) (0 + p) _ (by rfl) hownA ⟨wD.heap.size + 1, 0, none⟩ 1 1 [.int .i64 f, .int .i64 t] (by rfl) (by rfl) (World.news_of_block (cs := #[.int .i64 f, .int .i64 t]) hblk1) (by simp [Value.oneCell']) (by unfold maxLen; omega) (by omega) hHeld.out.size ?_
                intro v2 wB hownB hgB
                refine hK.out _ _ (bel_grow hHeld hgB (fun k e => by have := hownA.lt k e; omega)) (fun hHeld' => ?_)
                clear hK K hHeld
                have hHeld := hHeld'
                clear hHeld'
                try simp only [Act.put, List.setIfInBounds_toArray, List.set_cons_zero, List.set_cons_succ]
                clear hownA
                refine rd1 11 (fun K hK => ?_)
                obtain ⟨va2, vc2, rfl⟩ := own_shape hownB
                refine step_app0 _ rfl _ _ _ rfl wE.heap.size 75 i0 2 Try.underlying32 hi0 (.slice va2 (0 + p + 1) vc2) (0 + p + 1) _ (by rfl) hownB _ _ (by rfl) ?_
                refine hK.out _ _ (hHeld) (fun hHeld' => ?_)
                clear hK K hHeld
                have hHeld := hHeld'
                clear hHeld'
                try simp only [Act.put, List.setIfInBounds_toArray, List.set_cons_zero, List.set_cons_succ]
                refine rd1 12 (fun K hK => ?_)
                go_simp
                refine hK.out _ _ (hHeld) (fun hHeld' => ?_)
                clear hK K hHeld
                have hHeld := hHeld'
                clear hHeld'
                try simp only [Act.put, List.setIfInBounds_toArray, List.set_cons_zero, List.set_cons_succ]
                have HZ : Hid (AddOut w _ _ l ⟨f, t⟩ (.returned (.slice va2 (0 + p + 1) vc2)) wB) := HOut.out _ wB hownB hHeld
                clear hownB hgB
                refine wpAnyH_done (by kernel_rfl) ?_ _
                refine NoPanic.normal ?_
                go_wp2
                go_ret
                first | exact HZ.out | simpa using HZ.out
            · go_simp
              refine hK.out _ _ (bel_alloc hHeld _) (fun hHeld' => ?_)
              clear hK K hHeld
              have hHeld := hHeld'
              clear hHeld'
              try simp only [Act.put, List.setIfInBounds_toArray, List.set_cons_zero, List.set_cons_succ]
              refine rd1 0 (fun K hK => ?_)
              go_simp
              refine hK.out _ _ (bel_alloc hHeld _) (fun hHeld' => ?_)
              clear hK K hHeld
              have hHeld := hHeld'
              clear hHeld'
              try simp only [Act.put, List.setIfInBounds_toArray, List.set_cons_zero, List.set_cons_succ]
              have hown0 := World.ownsRow_made (e := 75) (size := 2) (base := wE.heap.size) (wD.alloc (.cells #[.int .i64 f, .int .i64 t] 75)) #[] 0 (by have := HsD.out; simp; omega) (by unfold maxLen; omega) (by rfl)
              have hsz1 : (wD.alloc (.cells #[.int .i64 f, .int .i64 t] 75)).heap.size = wD.heap.size + 1 := by simp
              rw [hsz1] at hown0
              have hblk : ((wD.alloc (.cells #[.int .i64 f, .int .i64 t] 75)).alloc (.cells #[] 75)).heap[wD.heap.size]? = some (.cells #[.int .i64 f, .int .i64 t] 75) := by have h := heap_alloc_new wD (.cells #[.int .i64 f, .int .i64 t] 75); have h2 := heap_alloc_old (wD.alloc (.cells #[.int .i64 f, .int .i64 t] 75)) (.cells #[] 75) (r := wD.heap.size) (by simp); exact h2.trans h
              refine rd1 4 (fun K hK => ?_)
              refine step_app _ rfl _ _ _ rfl wE.heap.size 75 i0 (.agg #[.int .i64 0, .int .i64 0]) 2 16 Try.underlying32 hi0 hz0 hz1 hz2 rfl (by decide) (.slice (some ⟨wD.heap.size + 1, 0, none⟩) 0 0) 0 [] (by rfl) hown0 ⟨b, off, none⟩ p _ (recs (csL 2 bnCs (l.take p)) (l.take p).length) (by rfl) Hl1.out (HN1.out _ (hHeld)) (banF.ones _) (by unfold maxLen; omega) (by omega) hHeld.out.size ?_
              intro v1 wA hownA hgA
              refine hK.out _ _ (bel_grow hHeld hgA (fun k e => by have := hown0.lt k e; omega)) (fun hHeld' => ?_)
              clear hK K hHeld
              have hHeld := hHeld'
              clear hHeld'
              try simp only [Act.put, List.setIfInBounds_toArray, List.set_cons_zero, List.set_cons_succ]
              have hblk1 := (hgA.block wD.heap.size (by simp; omega) (by simp [Value.ownBlock])).trans hblk
              clear hgA
              refine rd1 7 (fun K hK => ?_)
              obtain ⟨va1, vc1, rfl⟩ := own_shape hownA
              refine step_app _ rfl _ _ _ rfl wE.heap.size 75 i0 (.agg #[.int .i64 0, .int .i64 0]) 2 16 Try.underlying32 hi0 hz0 hz1 hz2 rfl (by decide) (.slice va1 (0 + p) vc1) (0 + p) _ (by rfl) hownA ⟨wD.heap.size, 0, none⟩ 1 1 [.int .i64 f, .int .i64 t] (by rfl) (by rfl) (World.news_of_block (cs := #[.int .i64 f, .int .i64 t]) hblk1) (by simp [Value.oneCell']) (by unfold maxLen; omega) (by omega) hHeld.out.size ?_
              intro v2 wB hownB hgB
              refine hK.out _ _ (bel_grow hHeld hgB (fun k e => by have := hownA.lt k e; omega)) (fun hHeld' => ?_)
              clear hK K hHeld
              have hHeld := hHeld'
              clear hHeld'
              try simp only [Act.put, List.setIfInBounds_toArray, List.set_cons_zero, List.set_cons_succ]
              clear hownA
              refine rd1 11 (fun K hK => ?_)
              obtain ⟨va2, vc2, rfl⟩ := own_shape hownB
              refine step_app0 _ rfl _ _ _ rfl wE.heap.size 75 i0 2 Try.underlying32 hi0 (.slice va2 (0 + p + 1) vc2) (0 + p + 1) _ (by rfl) hownB _ _ (by rfl) ?_
              refine hK.out _ _ (hHeld) (fun hHeld' => ?_)
              clear hK K hHeld
              have hHeld := hHeld'
              clear hHeld'
              try simp only [Act.put, List.setIfInBounds_toArray, List.set_cons_zero, List.set_cons_succ]
              refine rd1 12 (fun K hK => ?_)
              go_simp
              refine hK.out _ _ (hHeld) (fun hHeld' => ?_)
              clear hK K hHeld
              have hHeld := hHeld'
              clear hHeld'
              try simp only [Act.put, List.setIfInBounds_toArray, List.set_cons_zero, List.set_cons_succ]
              have HZ : Hid (AddOut w _ _ l ⟨f, t⟩ (.returned (.slice va2 (0 + p + 1) vc2)) wB) := HOut.out _ wB hownB hHeld
              clear hownB hgB
              refine wpAnyH_done (by kernel_rfl) ?_ _
              refine NoPanic.normal ?_
              go_wp2
              go_ret
              first | exact HZ.out | simpa using HZ.out
          · skip
            refine wp_region_noPanic ?_
            refine wp_region_held_drew (S := (fun w' => Bel wE w')) (by kernel_rfl) (Bel.refl _).drew (fun hHeld => ?_)
            generalize wE.drew = wD at hHeld ⊢
            refine wpAnyH_take (S := (fun w' => Bel wE w')) (i := 1) (oi := { dst := some 40, op := Go.Op.move (Go.Operand.tmp 0), type := 32, pos := "l09_graph.go:161", after := #[], guard := none }) (v := ?vz29) rfl (by kernel_rfl) (by kernel_rfl) (by kernel_rfl) (fun _ _ _ h => h) (Or.inl ⟨by rfl, ?hz29⟩) hHeld ?rz29
            case hz29 => (intro w hSw; (try dsimp only at hSw); (try obtain ⟨s2, s3⟩ := hS w hSw); go_simp; try with_reducible rfl)
            try simp only [Act.put, List.setIfInBounds_toArray, List.set_cons_zero, List.set_cons_succ]
            refine wpAnyH_take (S := (fun w' => Bel wE w')) (i := 2) (oi := { dst := some 41, op := Go.Op.move (Go.Operand.tmp 5), type := 3, pos := "l09_graph.go:161", after := #[], guard := none }) (v := ?vz30) rfl (by kernel_rfl) (by kernel_rfl) (by kernel_rfl) (fun _ _ _ h => h) (Or.inl ⟨by rfl, ?hz30⟩) hHeld ?rz30
            case hz30 => (intro w hSw; (try dsimp only at hSw); (try obtain ⟨s2, s3⟩ := hS w hSw); go_simp; try with_reducible rfl)
            try simp only [Act.put, List.setIfInBounds_toArray, List.set_cons_zero, List.set_cons_succ]
            refine wpAnyH_take (S := (fun w' => Bel wE w')) (i := 3) (oi := { dst := some 42, op := Go.Op.slice 32 (Go.Operand.tmp 40) none (some (Go.Operand.tmp 41)) none, type := 32, pos := "l09_graph.go:161", after := #[{ on := 1, ground := Go.Ground.data }, { on := 2, ground := Go.Ground.data }], guard := none }) (v := ?vz31) rfl (by kernel_rfl) (by kernel_rfl) (by kernel_rfl) (fun _ _ _ h => h) (Or.inl ⟨by rfl, ?hz31⟩) hHeld ?rz31
            case hz31 => (intro w hSw; (try dsimp only at hSw); (try obtain ⟨s2, s3⟩ := hS w hSw); go_simp; try with_reducible rfl)
            try simp only [Act.put, List.setIfInBounds_toArray, List.set_cons_zero, List.set_cons_succ]
            refine wpAnyH_take (S := (fun w' => Bel wE w')) (i := 5) (oi := { dst := some 44, op := Go.Op.load 75 (Go.Operand.tmp 3), type := 75, pos := "l09_graph.go:161", after := #[], guard := none }) (v := ?vz32) rfl (by kernel_rfl) (by kernel_rfl) (by kernel_rfl) (fun _ _ _ h => h) (Or.inl ⟨by rfl, ?hz32⟩) hHeld ?rz32
            case hz32 => (intro w hSw; (try dsimp only at hSw); (try obtain ⟨s2, s3⟩ := hS w hSw); go_simp; try with_reducible rfl)
            try simp only [Act.put, List.setIfInBounds_toArray, List.set_cons_zero, List.set_cons_succ]
            refine wpAnyH_take (S := (fun w' => Bel wE w')) (i := 8) (oi := { dst := some 47, op := Go.Op.move (Go.Operand.tmp 0), type := 32, pos := "l09_graph.go:161", after := #[], guard := none }) (v := ?vz33) rfl (by kernel_rfl) (by kernel_rfl) (by kernel_rfl) (fun _ _ _ h => h) (Or.inl ⟨by rfl, ?hz33⟩) hHeld ?rz33
            case hz33 => (intro w hSw; (try dsimp only at hSw); (try obtain ⟨s2, s3⟩ := hS w hSw); go_simp; try with_reducible rfl)
            try simp only [Act.put, List.setIfInBounds_toArray, List.set_cons_zero, List.set_cons_succ]
            refine wpAnyH_take (S := (fun w' => Bel wE w')) (i := 9) (oi := { dst := some 48, op := Go.Op.move (Go.Operand.tmp 5), type := 3, pos := "l09_graph.go:161", after := #[], guard := none }) (v := ?vz34) rfl (by kernel_rfl) (by kernel_rfl) (by kernel_rfl) (fun _ _ _ h => h) (Or.inl ⟨by rfl, ?hz34⟩) hHeld ?rz34
            case hz34 => (intro w hSw; (try dsimp only at hSw); (try obtain ⟨s2, s3⟩ := hS w hSw); go_simp; try with_reducible rfl)
            try simp only [Act.put, List.setIfInBounds_toArray, List.set_cons_zero, List.set_cons_succ]
            refine wpAnyH_take (S := (fun w' => Bel wE w')) (i := 10) (oi := { dst := some 49, op := Go.Op.slice 32 (Go.Operand.tmp 47) (some (Go.Operand.tmp 48)) none none, type := 32, pos := "l09_graph.go:161", after := #[{ on := 8, ground := Go.Ground.data }, { on := 9, ground := Go.Ground.data }], guard := none }) (v := .slice (some ⟨b, off + p * 2, none⟩) 0 (c2 - p)) rfl (by kernel_rfl) (by kernel_rfl) (by kernel_rfl) (fun _ _ _ h => h) (Or.inl ⟨by rfl, ?hz35⟩) hHeld ?rz35
            case hz35 => (intro w hSw; (try dsimp only at hSw); go_simp; first | done | (intro h; omega))
            try simp only [Act.put, List.setIfInBounds_toArray, List.set_cons_zero, List.set_cons_succ]
            have HsD : Hid (wE.heap.size ≤ wD.heap.size) := hHeld.out.size
            refine rd2 0 6 (fun K hK => ?_) (fun K hK => ?_)
            · go_simp
              refine hK.out _ _ (bel_alloc hHeld _) (fun hHeld' => ?_)
              clear hK K hHeld
              have hHeld := hHeld'
              clear hHeld'
              try simp only [Act.put, List.setIfInBounds_toArray, List.set_cons_zero, List.set_cons_succ]
              have hown0 := World.ownsRow_made (e := 75) (size := 2) (base := wE.heap.size) wD #[] 0 HsD.out (by unfold maxLen; omega) (by rfl)
              refine rd2 4 6 (fun K hK => ?_) (fun K hK => ?_)
              · refine step_app _ rfl _ _ _ rfl wE.heap.size 75 i0 (.agg #[.int .i64 0, .int .i64 0]) 2 16 Try.underlying32 hi0 hz0 hz1 hz2 rfl (by decide) (.slice (some ⟨wD.heap.size, 0, none⟩) 0 0) 0 [] (by rfl) hown0 ⟨b, off, none⟩ p _ (recs (csL 2 bnCs (l.take p)) (l.take p).length) (by rfl) Hl1.out (HN1.out _ (hHeld)) (banF.ones _) (by unfold maxLen; omega) (by omega) hHeld.out.size ?_
                intro v1 wA hownA hgA
                refine hK.out _ _ (bel_grow hHeld hgA (fun k e => by have := hown0.lt k e; omega)) (fun hHeld' => ?_)
                clear hK K hHeld
                have hHeld := hHeld'
                clear hHeld'
                try simp only [Act.put, List.setIfInBounds_toArray, List.set_cons_zero, List.set_cons_succ]
                refine rd1 6 (fun K hK => ?_)
                go_simp
                refine hK.out _ _ (bel_alloc hHeld _) (fun hHeld' => ?_)
                clear hK K hHeld
                have hHeld := hHeld'
                clear hHeld'
                try simp only [Act.put, List.setIfInBounds_toArray, List.set_cons_zero, List.set_cons_succ]
                have hown1 := hownA.alloc (.cells #[.int .i64 f, .int .i64 t] 75)
                clear hownA hgA
                refine rd1 7 (fun K hK => ?_)
                obtain ⟨va1, vc1, rfl⟩ := own_shape hown1
                refine step_app _ rfl _ _ _ rfl wE.heap.size 75 i0 (.agg #[.int .i64 0, .int .i64 0]) 2 16 Try.underlying32 hi0 hz0 hz1 hz2 rfl (by decide) (.slice va1 (0 + p) vc1) (0 + p) _ (by rfl) hown1 ⟨wA.heap.size, 0, none⟩ 1 1 [.int .i64 f, .int .i64 t] (by rfl) (by rfl) (World.news_of_block (cs := #[.int .i64 f, .int .i64 t]) (heap_alloc_new wA _)) (by simp [Value.oneCell']) (by unfold maxLen; omega) (by omega) hHeld.out.size ?_
                intro v2 wB hownB hgB
                refine hK.out _ _ (bel_grow hHeld hgB (fun k e => by have := hown1.lt k e; omega)) (fun hHeld' => ?_)
                clear hK K hHeld
                have hHeld := hHeld'
                clear hHeld'
                try simp only [Act.put, List.setIfInBounds_toArray, List.set_cons_zero, List.set_cons_succ]
                clear hown1
                refine rd1 11 (fun K hK => ?_)
                obtain ⟨va2, vc2, rfl⟩ := own_shape hownB
                refine step_app0 _ rfl _ _ _ rfl wE.heap.size 75 i0 2 Try.underlying32 hi0 (.slice va2 (0 + p + 1) vc2) (0 + p + 1) _ (by rfl) hownB _ _ (by rfl) ?_
                refine hK.out _ _ (hHeld) (fun hHeld' => ?_)
                clear hK K hHeld
                have hHeld := hHeld'
                clear hHeld'
                try simp only [Act.put, List.setIfInBounds_toArray, List.set_cons_zero, List.set_cons_succ]
                refine rd1 12 (fun K hK => ?_)
                go_simp
                refine hK.out _ _ (hHeld) (fun hHeld' => ?_)
                clear hK K hHeld
                have hHeld := hHeld'
                clear hHeld'
                try simp only [Act.put, List.setIfInBounds_toArray, List.set_cons_zero, List.set_cons_succ]
                have HZ : Hid (AddOut w _ _ l ⟨f, t⟩ (.returned (.slice va2 (0 + p + 1) vc2)) wB) := HOut.out _ wB hownB hHeld
                clear hownB hgB
                refine wpAnyH_done (by kernel_rfl) ?_ _
                refine NoPanic.normal ?_
                go_wp2
                go_ret
                first | exact HZ.out | simpa using HZ.out
              · go_simp
                refine hK.out _ _ (bel_alloc hHeld _) (fun hHeld' => ?_)
                clear hK K hHeld
                have hHeld := hHeld'
                clear hHeld'
                try simp only [Act.put, List.setIfInBounds_toArray, List.set_cons_zero, List.set_cons_succ]
                have hown0b := hown0.alloc (.cells #[.int .i64 f, .int .i64 t] 75)
                have hblk : ((wD.alloc (.cells #[] 75)).alloc (.cells #[.int .i64 f, .int .i64 t] 75)).heap[wD.heap.size + 1]? = some (.cells #[.int .i64 f, .int .i64 t] 75) := by have h := heap_alloc_new (wD.alloc (.cells #[] 75)) (.cells #[.int .i64 f, .int .i64 t] 75); simpa using h
                refine rd1 4 (fun K hK => ?_)
                refine step_app _ rfl _ _ _ rfl wE.heap.size 75 i0 (.agg #[.int .i64 0, .int .i64 0]) 2 16 Try.underlying32 hi0 hz0 hz1 hz2 rfl (by decide) (.slice (some ⟨wD.heap.size, 0, none⟩) 0 0) 0 [] (by rfl) hown0b ⟨b, off, none⟩ p _ (recs (csL 2 bnCs (l.take p)) (l.take p).length) (by rfl) Hl1.out (HN1.out _ (hHeld)) (banF.ones _) (by unfold maxLen; omega) (by omega) hHeld.out.size ?_
                intro v1 wA hownA hgA
                refine hK.out _ _ (bel_grow hHeld hgA (fun k e => by have := hown0b.lt k e; omega)) (fun hHeld' => ?_)
                clear hK K hHeld
                have hHeld := hHeld'
                clear hHeld'
                try simp only [Act.put, List.setIfInBounds_toArray, List.set_cons_zero, List.set_cons_succ]
                have hblk1 := (hgA.block (wD.heap.size + 1) (by simp) (by simp [Value.ownBlock])).trans hblk
                clear hgA
                refine rd1 7 (fun K hK => ?_)
                obtain ⟨va1, vc1, rfl⟩ := own_shape hownA
                refine step_app _ rfl _ _ _ rfl wE.heap.size 75 i0 (.agg #[.int .i64 0, .int .i64 0]) 2 16 Try.underlying32 hi0 hz0 hz1 hz2 rfl (by decide) (.slice va1 (0 + p) vc1) (0 + p) _ (by rfl) hownA ⟨wD.heap.size + 1, 0, none⟩ 1 1 [.int .i64 f, .int .i64 t] (by rfl) (by rfl) (World.news_of_block (cs := #[.int .i64 f, .int .i64 t]) hblk1) (by simp [Value.oneCell']) (by unfold maxLen; omega) (by omega) hHeld.out.size ?_
                intro v2 wB hownB hgB
                refine hK.out _ _ (bel_grow hHeld hgB (fun k e => by have := hownA.lt k e; omega)) (fun hHeld' => ?_)
                clear hK K hHeld
                have hHeld := hHeld'
                clear hHeld'
                try simp only [Act.put, List.setIfInBounds_toArray, List.set_cons_zero, List.set_cons_succ]
                clear hownA
                refine rd1 11 (fun K hK => ?_)
                obtain ⟨va2, vc2, rfl⟩ := own_shape hownB
                refine step_app0 _ rfl _ _ _ rfl wE.heap.size 75 i0 2 Try.underlying32 hi0 (.slice va2 (0 + p + 1) vc2) (0 + p + 1) _ (by rfl) hownB _ _ (by rfl) ?_
                refine hK.out _ _ (hHeld) (fun hHeld' => ?_)
                clear hK K hHeld
                have hHeld := hHeld'
                clear hHeld'
                try simp only [Act.put, List.setIfInBounds_toArray, List.set_cons_zero, List.set_cons_succ]
                refine rd1 12 (fun K hK => ?_)
                go_simp
                refine hK.out _ _ (hHeld) (fun hHeld' => ?_)
                clear hK K hHeld
                have hHeld := hHeld'
                clear hHeld'
                try simp only [Act.put, List.setIfInBounds_toArray, List.set_cons_zero, List.set_cons_succ]
                have HZ : Hid (AddOut w _ _ l ⟨f, t⟩ (.returned (.slice va2 (0 + p + 1) vc2)) wB) := HOut.out _ wB hownB hHeld
                clear hownB hgB
                refine wpAnyH_done (by kernel_rfl) ?_ _
                refine NoPanic.normal ?_
                go_wp2
                go_ret
                first | exact HZ.out | simpa using HZ.out
            · go_simp
              refine hK.out _ _ (bel_alloc hHeld _) (fun hHeld' => ?_)
              clear hK K hHeld
              have hHeld := hHeld'
              clear hHeld'
              try simp only [Act.put, List.setIfInBounds_toArray, List.set_cons_zero, List.set_cons_succ]
              refine rd1 0 (fun K hK => ?_)
              go_simp
              refine hK.out _ _ (bel_alloc hHeld _) (fun hHeld' => ?_)
              clear hK K hHeld
              have hHeld := hHeld'
              clear hHeld'
              try simp only [Act.put, List.setIfInBounds_toArray, List.set_cons_zero, List.set_cons_succ]
              have hown0 := World.ownsRow_made (e := 75) (size := 2) (base := wE.heap.size) (wD.alloc (.cells #[.int .i64 f, .int .i64 t] 75)) #[] 0 (by have := HsD.out; simp; omega) (by unfold maxLen; omega) (by rfl)
              have hsz1 : (wD.alloc (.cells #[.int .i64 f, .int .i64 t] 75)).heap.size = wD.heap.size + 1 := by simp
              rw [hsz1] at hown0
              have hblk : ((wD.alloc (.cells #[.int .i64 f, .int .i64 t] 75)).alloc (.cells #[] 75)).heap[wD.heap.size]? = some (.cells #[.int .i64 f, .int .i64 t] 75) := by have h := heap_alloc_new wD (.cells #[.int .i64 f, .int .i64 t] 75); have h2 := heap_alloc_old (wD.alloc (.cells #[.int .i64 f, .int .i64 t] 75)) (.cells #[] 75) (r := wD.heap.size) (by simp); exact h2.trans h
              refine rd1 4 (fun K hK => ?_)
              refine step_app _ rfl _ _ _ rfl wE.heap.size 75 i0 (.agg #[.int .i64 0, .int .i64 0]) 2 16 Try.underlying32 hi0 hz0 hz1 hz2 rfl (by decide) (.slice (some ⟨wD.heap.size + 1, 0, none⟩) 0 0) 0 [] (by rfl) hown0 ⟨b, off, none⟩ p _ (recs (csL 2 bnCs (l.take p)) (l.take p).length) (by rfl) Hl1.out (HN1.out _ (hHeld)) (banF.ones _) (by unfold maxLen; omega) (by omega) hHeld.out.size ?_
              intro v1 wA hownA hgA
              refine hK.out _ _ (bel_grow hHeld hgA (fun k e => by have := hown0.lt k e; omega)) (fun hHeld' => ?_)
              clear hK K hHeld
              have hHeld := hHeld'
              clear hHeld'
              try simp only [Act.put, List.setIfInBounds_toArray, List.set_cons_zero, List.set_cons_succ]
              have hblk1 := (hgA.block wD.heap.size (by simp; omega) (by simp [Value.ownBlock])).trans hblk
              clear hgA
              refine rd1 7 (fun K hK => ?_)
              obtain ⟨va1, vc1, rfl⟩ := own_shape hownA
              refine step_app _ rfl _ _ _ rfl wE.heap.size 75 i0 (.agg #[.int .i64 0, .int .i64 0]) 2 16 Try.underlying32 hi0 hz0 hz1 hz2 rfl (by decide) (.slice va1 (0 + p) vc1) (0 + p) _ (by rfl) hownA ⟨wD.heap.size, 0, none⟩ 1 1 [.int .i64 f, .int .i64 t] (by rfl) (by rfl) (World.news_of_block (cs := #[.int .i64 f, .int .i64 t]) hblk1) (by simp [Value.oneCell']) (by unfold maxLen; omega) (by omega) hHeld.out.size ?_
              intro v2 wB hownB hgB
              refine hK.out _ _ (bel_grow hHeld hgB (fun k e => by have := hownA.lt k e; omega)) (fun hHeld' => ?_)
              clear hK K hHeld
              have hHeld := hHeld'
              clear hHeld'
              try simp only [Act.put, List.setIfInBounds_toArray, List.set_cons_zero, List.set_cons_succ]
              clear hownA
              refine rd1 11 (fun K hK => ?_)
              obtain ⟨va2, vc2, rfl⟩ := own_shape hownB
              refine step_app0 _ rfl _ _ _ rfl wE.heap.size 75 i0 2 Try.underlying32 hi0 (.slice va2 (0 + p + 1) vc2) (0 + p + 1) _ (by rfl) hownB _ _ (by rfl) ?_
              refine hK.out _ _ (hHeld) (fun hHeld' => ?_)
              clear hK K hHeld
              have hHeld := hHeld'
              clear hHeld'
              try simp only [Act.put, List.setIfInBounds_toArray, List.set_cons_zero, List.set_cons_succ]
              refine rd1 12 (fun K hK => ?_)
              go_simp
              refine hK.out _ _ (hHeld) (fun hHeld' => ?_)
              clear hK K hHeld
              have hHeld := hHeld'
              clear hHeld'
              try simp only [Act.put, List.setIfInBounds_toArray, List.set_cons_zero, List.set_cons_succ]
              have HZ : Hid (AddOut w _ _ l ⟨f, t⟩ (.returned (.slice va2 (0 + p + 1) vc2)) wB) := HOut.out _ wB hownB hHeld
              clear hownB hgB
              refine wpAnyH_done (by kernel_rfl) ?_ _
              refine NoPanic.normal ?_
              go_wp2
              go_ret
              first | exact HZ.out | simpa using HZ.out
end Go.Proofs.Ytiagdabikbjbiaa

