/-
  slices.AppendSeq and slices.Collect at bans, of the keys of a set: contracts.
-/
import Derived.Test.YtiagdabikbjbiaaKeyS
import Derived.Test.YtiagdabikbjbiaaRngB
import Derived.Test.YtiagdabikbjbiaaFlat
namespace Go.Proofs.Ytiagdabikbjbiaa
open Go.RowKit Go.Maps Go.WideElems Go.Sort Go.Shelf

def bkC (d : BanD) : List Value := [.int .i64 d.fr, .int .i64 d.to]
theorem infoBk : (Try.prog.info? 75).map (fun i => (i.zero, i.size, i.bytes)) = some (some (.agg #[.int .i64 0, .int .i64 0]), 2, 16) := by kernel_rfl
theorem own_keepF {W W' : World} {row : Option Nat} {base e q n : Nat} {v : Value} {xs : List Value} (h : W.ownsRow base e q v n xs) (hg : W.grownBy W' row) (hr : ∀ r, row = some r → ∃ o : Obj, W.heap[r]? = some o ∧ o.isCells = false) : W'.ownsRow base e q v n xs := by
  obtain ⟨h1, h2⟩ := h
  refine ⟨h1, ?_⟩
  rcases h2 with h2 | ⟨g, cap, cur, e1, e2, e3, e4⟩
  · exact .inl h2
  · refine .inr ⟨g, cap, cur, e1, e2, ?_, e4⟩
    rw [hg.block g (Array.getElem?_eq_some_iff.1 e3).1 ?_]
    · exact e3
    · intro hh
      obtain ⟨o, ho, hc⟩ := hr g hh.symm
      rw [e3] at ho
      cases ho
      cases hc
theorem cells_keepF {W W' : World} {row : Option Nat} {B : Nat} {cs : Array Value} {t : TypeId} (h : W.heap[B]? = some (.cells cs t)) (hg : W.grownBy W' row) (hr : ∀ r, row = some r → ∃ o : Obj, W.heap[r]? = some o ∧ o.isCells = false) : W'.heap[B]? = some (.cells cs t) := by
  rw [hg.block B (Array.getElem?_eq_some_iff.1 h).1 ?_]
  · exact h
  · intro hh
    obtain ⟨o, ho, hc⟩ := hr B hh.symm
    rw [h] at ho
    cases ho
    cases hc

theorem box_cell {W : World} {B : Nat} {v : Value} {t : TypeId} (h : W.heap[B]? = some (.cells #[v] t)) : W.cell? ⟨B, 0, none⟩ = some v ∧ W.frozen? ⟨B, 0, none⟩ = false := by
  constructor <;> simp [World.cell?, World.frozen?, h]
theorem own_neT {W : World} {base e q n : Nat} {v : Value} {xs : List Value} {B : Nat} {cs : Array Value} {t : TypeId} (h : W.ownsRow base e q v n xs) (hB : W.heap[B]? = some (.cells cs t)) (hne : t ≠ e) : some B ≠ v.ownBlock := by
  obtain ⟨_, h2⟩ := h
  rcases h2 with ⟨rfl, _⟩ | ⟨g, cap, cur, rfl, _, e3, _⟩
  · intro hh; simp [Value.ownBlock] at hh
  · intro hh
    simp only [Value.ownBlock, Option.some.injEq] at hh
    rw [← hh, hB] at e3
    injection e3 with hc
    injection hc with _ he
    exact hne he
/-- What is collected so far. -/
def ApI (w : World) (ss : List BanD) (V : World) : Prop :=
  Below w.heap.size w V ∧ ∃ v, V.heap[w.heap.size]? = some (.cells #[v] 32) ∧ V.ownsRow w.heap.size 75 2 v ss.length (ss.flatMap bkC)
theorem apI_own (w : World) {B : Nat} (hB : w.heap.size ≤ B) : OwnFrom B (ApI w) := by
  intro ss W W' row ⟨hb, v, hv, ho⟩ hg hr
  have hr2 := fun r e => (hr r e).2
  exact ⟨hb.grown hg hb.size (fun k e => Nat.le_trans hB (hr k e).1), v, cells_keepF hv hg hr2, own_keepF ho hg hr2⟩
/-- A round has its variable. -/
def ApJ (w : World) (gf : Nat) (lb : Array Value) (pre : List BanD) (x : BanD) (a1 : Act) (V : World) : Prop :=
  ApI w pre V ∧ ∃ B, w.heap.size < B ∧ a1 = { tmps := #[.slice none 0 0, .func (.func gf) #[] lb, .pointer (some ⟨w.heap.size, 0, none⟩), undef, .slice none 0 0, .pointer (some ⟨B, 0, none⟩), .func (.func gf) #[] lb, banV x, undef, undef, undef, undef, undef], defers := [] } ∧
    V.heap[B]? = some (.cells #[.int .i64 x.fr, .int .i64 x.to] 75)
theorem apJ_own (w : World) (gf : Nat) (lb : Array Value) (x : BanD) (a1 : Act) {B : Nat} (hB : w.heap.size ≤ B) : OwnFrom B (fun pre V => ApJ w gf lb pre x a1 V) := by
  intro ss W W' row ⟨hI, B', h1, h2, h3⟩ hg hr
  exact ⟨apI_own w hB ss W W' row hI hg hr, B', h1, h2, cells_keepF h3 hg (fun r e => (hr r e).2)⟩

attribute [local go_sem] Oper.semAt_some

set_option maxRecDepth 100000 in
set_option maxHeartbeats 4000000 in
theorem appendBans_in (F : Fence) (n : Nat) (h11 : F.fn 85) (hro : F.round = none) (hn : 2 ≤ n) (gf : Nat) (lb : Array Value) (hFg : F.fn gf) (eg : ∀ args w, (callFunc gf args).run Try.prog w = .ok (.enter gf args) w)
    (S : List BanD → Prop) (N : Nat) (hN : N ≤ 1048576) (w : World) (hseq : SeqGives F (n - 1) Try.prog gf lb banV S N w) :
    CallsIn F n Try.prog 85 #[.slice none 0 0, .func (.func gf) #[] lb] w fun e w' => ∃ (v : Value) (ss : List BanD), e = .returned v ∧ S ss ∧ w'.ownsRow w.heap.size 75 2 v ss.length (ss.flatMap bkC) ∧ Bel w w' := by
  obtain ⟨i0, hi0, hz0, hz1, hz2⟩ := info_parts infoBk
  refine callsIn_of_wp_marks Try.func85 rfl h11 ?_ hro
  simp only [Try.ntmps85, List.size_toArray, List.length_cons, List.length_nil, Nat.reduceAdd, Nat.reduceSub, Array.replicate_succ, Array.replicate_zero, List.push_toArray, List.append_toArray, List.nil_append, List.cons_append]
  gi_wp2
  refine wpIn_rangeGives hro (by omega) (gf := gf) (lb := lb) rfl hFg eg hseq (bel_alloc (Bel.refl w) _).out rfl (ApI w) (apI_own w (by simp)) ?h0 (ApJ w gf lb) (fun x a1 => apJ_own w gf lb x a1 (by simp)) ?assign ?body ?done
  case h0 => exact ⟨(bel_alloc (Bel.refl w) _).out, .slice none 0 0, World.alloc_heap_new w _, World.ownsRow_nil _ _ _ _⟩
  case assign =>
    intro l pre x V K hI hK
    unfold banV bnV
    gi_wp2
    have hlt : w.heap.size < V.heap.size := by obtain ⟨_, v, hv, _⟩ := hI; exact (Array.getElem?_eq_some_iff.1 hv).1
    exact hK _ _ ⟨apI_own w (Nat.le_refl _) pre V _ none hI (World.grownBy_alloc _ _ _) (fun r e => by cases e), V.heap.size, hlt, rfl, World.alloc_heap_new V _⟩ (KeepsOthers.alloc _ _) (KeepsWalks.alloc _ _)
  case body =>
    rintro l pre x a1 V ⟨⟨hb, v, hv, ho⟩, B, hB, rfl, hc⟩ hlen
    obtain ⟨va, vc, rfl⟩ := own_shape ho
    have hBl : B < V.heap.size := (Array.getElem?_eq_some_iff.1 hc).1
    have hwl : w.heap.size < V.heap.size := (Array.getElem?_eq_some_iff.1 hv).1
    have hbox := box_cell hv
    have hc0 : V.cell? ⟨B, 0, none⟩ = some (.int .i64 x.fr) := by simp [World.cell?, hc]
    have hc1 : V.cell? ⟨B, 1, none⟩ = some (.int .i64 x.to) := by simp [World.cell?, hc]
    have hX := World.ownsRow.alloc ho (.cells #[.int .i64 x.fr, .int .i64 x.to] 75)
    have hne : some w.heap.size ≠ (Value.slice va pre.length vc).ownBlock := own_neT ho hv (by decide)
    have hbs := hb.size
    unfold banV bnV
    gi_wp2_with (first
      | (gi_at_builtin; refine wpListIn_append_own _ rfl _ _ 32 rfl w.heap.size 75 i0 (.agg #[.int .i64 0, .int .i64 0]) 2 16 Try.underlying32 hi0 hz0 hz1 hz2 rfl (by decide) _ _ _ rfl hX ⟨V.heap.size, 0, none⟩ 1 1 [.int .i64 x.fr, .int .i64 x.to] rfl rfl ?c1 ?c2 ?c3 ?c4 ?c5 ?_)
      | gi_in)
    case c1 =>
      intro j u hj
      match j, hj with
      | 0, hj => simp at hj; subst hj; simp [Addr.add]
      | 1, hj => simp at hj; subst hj; simp [Addr.add]
    case c2 =>
      intro u hu
      simp at hu
      rcases hu with rfl | rfl <;> rfl
    case c3 => unfold maxLen; omega
    case c4 => omega
    case c5 => simp; omega
    intro v' w3 hown' hgrow _
    obtain ⟨a3, k3, rfl⟩ := own_shape hown'
    have hv3 : w3.heap[w.heap.size]? = some (.cells #[.slice va pre.length vc] 32) := (hgrow.block _ (by simp; omega) hne).trans ((Below.heap_alloc _ _ _ hwl).trans hv)
    have hbox3 := box_cell hv3
    have hb3 : Below w.heap.size w w3 := (hb.alloc hbs _).grown hgrow (by simp; omega) (fun k e => (ho.lt k e).1)
    have ko3 : KeepsOthers V w3 := (KeepsOthers.alloc _ _).trans (KeepsOthers.of_grownBy hgrow (fun j o ej hj => by
      obtain ⟨_, h2⟩ := hX
      rcases h2 with ⟨e, _⟩ | ⟨g, cap, cur, e, _, e3, _⟩
      · rw [e] at ej; simp [Value.ownBlock] at ej
      · rw [e] at ej
        simp only [Value.ownBlock, Option.some.injEq] at ej
        rw [← ej, e3] at hj
        cases hj
        rfl))
    clear hbox hc0 hc1 hX hgrow
    obtain ⟨hq1, hq2⟩ := hbox3
    gi_wp2
    have hown3 : w3.ownsRow w.heap.size 75 2 (.slice a3 (pre.length + 1) k3) (pre ++ [x]).length ((pre ++ [x]).flatMap bkC) := by
      rw [List.length_append, List.flatMap_append]
      simpa [bkC] using hown'
    refine ⟨ko3.trans (KeepsOthers.setCell _ _ _), (ko3.trans (KeepsOthers.setCell _ _ _)).walks, bel_set hb3 (Nat.le_refl _) _, .slice a3 (pre.length + 1) k3, heap_setCell_box_a _ hv3, ?_⟩
    exact hown3.kept (grownBy_setCell0_a _ _ _) (ownsRow_ne_a hown3 hv3 (fun cur e => by cases e))
  case done =>
    intro D xs V hD hS hI hK
    obtain ⟨hb, v, hv, ho⟩ := hI
    obtain ⟨q1, q2⟩ := box_cell hv
    gi_wp2
    refine ⟨by simp, .inl ⟨_, _, rfl, run_takeDeferred hK, ?_⟩⟩
    have hg := grownBy_putObj_a V D (.deferred none)
    have hr : ∀ r, some D = some r → ∃ o : Obj, V.heap[r]? = some o ∧ o.isCells = false := fun r e => by cases e; exact ⟨_, hK, rfl⟩
    have hws : w.heap.size ≤ (w.alloc (.cells #[.slice none 0 0] 32)).heap.size := by simp
    have hDw : w.heap.size ≤ D := Nat.le_trans hws hD
    exact ⟨_, results_tmp rfl _ _ _, v, xs, rfl, hS, own_keepF ho hg hr, hb.grown hg hb.size (fun k (e : some D = some k) => by cases e; exact hDw)⟩

set_option maxHeartbeats 1000000 in
theorem keysB_any (mb : Option Nat) (w : World) :
    Calls Try.prog 60 #[.map mb] w fun e w' => e = .returned (.func (.func 77) #[] #[.pointer (some ⟨w.heap.size, 0, none⟩)]) ∧ w' = w.alloc (.cells #[.map mb] 57) := by
  go_enter Try.func60, Try.ntmps60
  go_wp2
  go_ret
  exact ⟨rfl, rfl⟩
theorem keysB_gives (F : Fence) (n : Nat) (h10 : F.fn 77) (hro : F.round = none) (hn : 1 ≤ n) (Bm b : Nat) (L : List BanD) (w : World) (hm : w.cell? ⟨Bm, 0, none⟩ = some (.map (some b))) (hBm : Bm < w.heap.size) (hX : BX w b L) :
    SeqGives F n Try.prog 77 #[.pointer (some ⟨Bm, 0, none⟩)] banV (fun ss => ss.Perm L) L.length w := fun l J W hW hJ hY h0 =>
  keysB1_in F n h10 hro hn l Bm b L J (fun pre x V hj hl _ => hY pre x V hj hl) W hJ ((hW.cell (p := ⟨Bm, 0, none⟩) hBm).trans hm) (hX.bel hW) h0

set_option maxHeartbeats 1000000 in
/-- The bans of a set, collected. -/
theorem collectBans_any (Bm b : Nat) (L : List BanD) (hL : L.length ≤ 1048576) (w : World) (hm : w.cell? ⟨Bm, 0, none⟩ = some (.map (some b))) (hBm : Bm < w.heap.size) (hX : BX w b L) :
    Calls Try.prog 75 #[.func (.func 77) #[] #[.pointer (some ⟨Bm, 0, none⟩)]] w fun e w' => ∃ (v : Value) (ss : List BanD), e = .returned v ∧ ss.Perm L ∧ w'.ownsRow w.heap.size 75 2 v ss.length (ss.flatMap bkC) ∧ Bel w w' := by
  have hap := callsIn_wide.1 (appendBans_in Fence.wide 3 trivial rfl (by omega) 77 #[.pointer (some ⟨Bm, 0, none⟩)] trivial (enters_of Try.func77 (by kernel_rfl) rfl)
    (fun ss => ss.Perm L) L.length hL w (keysB_gives Fence.wide 2 trivial rfl (by omega) Bm b L w hm hBm hX))
  go_enter Try.func75, Try.ntmps75
  go_wp2_with fail
  refine hap.mono ?_
  rintro e w1 ⟨v, ss, rfl, hp, ho, hb⟩
  go_wp2_with fail
  go_ret
  exact ⟨v, ss, rfl, hp, ho, hb⟩
end Go.Proofs.Ytiagdabikbjbiaa
