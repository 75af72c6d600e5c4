/-
  Graphs that are copied, in the model: contract.
-/
import Derived.Test.YtiagdabikbjbiaaXA
import Derived.Test.YtiagdabikbjbiaaFrsG
import Derived.Test.YtiagdabikbjbiaaXD
import Derived.Test.YtiagdabikbjbiaaGphP
import Derived.Deep.RegionHeld3
namespace Go.Proofs.Ytiagdabikbjbiaa
open Go.RowKit Go.Maps

theorem own_keep2 {w w' : World} {lo lo' : Nat} {e e' : TypeId} {q q' n n' : Nat} {v v' : Value} {xs xs' : List Value} (h : w.ownsRow lo e q v n xs) (h' : w.ownsRow lo' e' q' v' n' xs') (hne : e ≠ e') (hg : w.grownBy w' v'.ownBlock) : w'.ownsRow lo e q v n xs := by
  cases hv : v.ownBlock with
  | none => exact h.kept hg (.inl hv)
  | some k => exact h.kept hg (.inr (by rw [hv]; exact fun e => own_apart h h' hne hv e.symm))
theorem flat_in {α : Type} {q : Nat} {E : Elem α} (hE : ∀ {w : World} {b o : Nat} {d : α} {bs : List Nat}, E w b o d bs → bs = []) {w : World} {a : Option Addr} {l : List α} {bs : List Nat} (h : Sl q E w a l bs) {x : Nat} (hx : x ∈ bs) {n c : Nat} : (Value.slice a n c).ownBlock = some x := by
  rcases h with ⟨_, rfl⟩ | ⟨b, off, f, rfl, _, rfl, hh⟩
  · exact nomatch hx
  · rcases List.mem_cons.1 hx with rfl | hx
    · rfl
    · obtain ⟨i, hi, hxi⟩ := List.mem_flatMap.1 hx
      rw [hE (hh i (List.mem_range.1 hi))] at hxi
      exact nomatch hxi
theorem own_capR {w : World} {base : Nat} {e : TypeId} {q n m c : Nat} {p : Option Addr} {xs : List Value} (h : w.ownsRow base e q (.slice p m c) n xs) : n ≤ c := by
  rcases h.2 with ⟨e1, rfl⟩ | ⟨_, _, _, e1, _, _, h3, _⟩
  · exact Nat.zero_le _
  · injection e1 with _ _ e1
    rw [e1]; exact h3
/-- The third row of a graph has its room. -/
def CapG (v : Value) (n : Nat) : Prop := ∃ x y a c, v = .agg #[x, y, .slice a n c] ∧ n ≤ c
theorem cpy_out {w V Y : World} {g : GraphD} {p0 p1 p2 : Option Addr} {q0 q1 q2 : Nat} (hP : (∀ i (h : i < g.places.length), sptP g.places[i]) ∧ (∀ i (h : i < g.roads.length), rodP g.roads[i]) ∧ ∀ i (h : i < g.bans.length), banW g.bans[i]) (hwV : Bel w V) (hVR : w.heap.size + 1 < V.heap.size) (_ : Blk V (w.heap.size + 1) [.slice none 0 0, .slice none 0 0, .slice none 0 0]) (hY : Bel V Y) (XR : Blk Y (w.heap.size + 1) [.slice none 0 0, .slice none 0 0, .slice none 0 0])
    (O0 : Y.ownsRow V.heap.size 83 3 (.slice p0 g.places.length q0) g.places.length (recs (csL 3 sptCs g.places) g.places.length)) (O1 : Y.ownsRow V.heap.size 72 6 (.slice p1 g.roads.length q1) g.roads.length (recs (csL 6 rodCs g.roads) g.roads.length)) (O2 : Y.ownsRow V.heap.size 75 2 (.slice p2 g.bans.length q2) g.bans.length (recs (csL 2 banU g.bans) g.bans.length)) :
    ∃ bs', GphV (((Y.setCell ⟨w.heap.size + 1, 0, none⟩ (.slice p0 g.places.length q0)).setCell ⟨w.heap.size + 1, 1, none⟩ (.slice p1 g.roads.length q1)).setCell ⟨w.heap.size + 1, 2, none⟩ (.slice p2 g.bans.length q2)) (.agg #[.slice p0 g.places.length q0, .slice p1 g.roads.length q1, .slice p2 g.bans.length q2]) g bs' ∧
      Fresh w (((Y.setCell ⟨w.heap.size + 1, 0, none⟩ (.slice p0 g.places.length q0)).setCell ⟨w.heap.size + 1, 1, none⟩ (.slice p1 g.roads.length q1)).setCell ⟨w.heap.size + 1, 2, none⟩ (.slice p2 g.bans.length q2)) bs' ∧
      Bel w (((Y.setCell ⟨w.heap.size + 1, 0, none⟩ (.slice p0 g.places.length q0)).setCell ⟨w.heap.size + 1, 1, none⟩ (.slice p1 g.roads.length q1)).setCell ⟨w.heap.size + 1, 2, none⟩ (.slice p2 g.bans.length q2)) ∧
      (((Y.setCell ⟨w.heap.size + 1, 0, none⟩ (.slice p0 g.places.length q0)).setCell ⟨w.heap.size + 1, 1, none⟩ (.slice p1 g.roads.length q1)).setCell ⟨w.heap.size + 1, 2, none⟩ (.slice p2 g.bans.length q2)).cell? ⟨w.heap.size + 1, 0, none⟩ = some (.slice p0 g.places.length q0) ∧
      (((Y.setCell ⟨w.heap.size + 1, 0, none⟩ (.slice p0 g.places.length q0)).setCell ⟨w.heap.size + 1, 1, none⟩ (.slice p1 g.roads.length q1)).setCell ⟨w.heap.size + 1, 2, none⟩ (.slice p2 g.bans.length q2)).cell? ⟨w.heap.size + 1, 1, none⟩ = some (.slice p1 g.roads.length q1) ∧
      (((Y.setCell ⟨w.heap.size + 1, 0, none⟩ (.slice p0 g.places.length q0)).setCell ⟨w.heap.size + 1, 1, none⟩ (.slice p1 g.roads.length q1)).setCell ⟨w.heap.size + 1, 2, none⟩ (.slice p2 g.bans.length q2)).cell? ⟨w.heap.size + 1, 2, none⟩ = some (.slice p2 g.bans.length q2) ∧ g.bans.length ≤ q2 := by
  have hcap := own_capR O2
  obtain ⟨_, _, d0, e0, T0, M0⟩ := sptF.out O0 hP.1
  obtain ⟨_, _, d1, e1, T1, M1⟩ := rodF.out O1 hP.2.1
  obtain ⟨_, _, d2, e2, T2, M2⟩ := banG.out O2 hP.2.2
  injection e0 with e0 _ e0'
  injection e1 with e1 _ e1'
  injection e2 with e2 _ e2'
  subst e0 e1 e2 e0' e1' e2'
  have D01 : ∀ x ∈ d0, x ∉ d1 := fun x hx hy => own_apart O0 O1 (by decide) (flat_in (fun h => h.1) T0 hx) (flat_in (fun h => h.1) T1 hy)
  have D02 : ∀ x ∈ d0, x ∉ d2 := fun x hx hy => own_apart O0 O2 (by decide) (flat_in (fun h => h.1) T0 hx) (flat_in (fun h => h.1) T2 hy)
  have D12 : ∀ x ∈ d1, x ∉ d2 := fun x hx hy => own_apart O1 O2 (by decide) (flat_in (fun h => h.1) T1 hx) (flat_in (fun h => h.1) T2 hy)
  have F0 : Fresh V Y d0 := M0.fresh (Nat.le_refl _)
  have F1 : Fresh V Y d1 := M1.fresh (Nat.le_refl _)
  have F2 : Fresh V Y d2 := M2.fresh (Nat.le_refl _)
  have HF : Fresh V Y (d0 ++ (d1 ++ d2)) := F0.app (F1.app F2 D12) fun x hx hy => (List.mem_append.1 hy).elim (D01 x hx) (D02 x hx)
  have hn : ∀ x ∈ d0 ++ (d1 ++ d2), x ≠ w.heap.size + 1 := fun x hx e => by have := (HF.new x hx).1; omega
  have hn0 : w.heap.size + 1 ∉ d0 := fun h => hn _ (List.mem_append.2 (.inl h)) rfl
  have hn1 : w.heap.size + 1 ∉ d1 := fun h => hn _ (List.mem_append.2 (.inr (List.mem_append.2 (.inl h)))) rfl
  have hn2 : w.heap.size + 1 ∉ d2 := fun h => hn _ (List.mem_append.2 (.inr (List.mem_append.2 (.inr h)))) rfl
  obtain ⟨X, HX⟩ : ∃ X, ((Y.setCell ⟨w.heap.size + 1, 0, none⟩ (.slice p0 g.places.length q0)).setCell ⟨w.heap.size + 1, 1, none⟩ (.slice p1 g.roads.length q1)).setCell ⟨w.heap.size + 1, 2, none⟩ (.slice p2 g.bans.length q2) = X := ⟨_, rfl⟩
  have al : ∀ ds : List Nat, w.heap.size + 1 ∉ ds → (∀ x ∈ ds, x < Y.heap.size) → Alike Y X ds := fun ds hd hl => by rw [← HX]; exact (((Alike.refl hl).set hd _ _).set hd _ _).set hd _ _
  have hlo : w.heap.size ≤ w.heap.size + 1 := Nat.le_succ _
  have XX : Blk X (w.heap.size + 1) [.slice p0 g.places.length q0, .slice p1 g.roads.length q1, .slice p2 g.bans.length q2] := by rw [← HX]; exact ((XR.set 0 _ (by simp)).set 1 _ (by simp)).set 2 _ (by simp)
  have hBX : Bel w X := by rw [← HX]; exact bel_set (bel_set (bel_set (bel_step hwV hY) hlo _) hlo _) hlo _
  have hFX : Fresh w X (d0 ++ (d1 ++ d2)) := by
    rw [← HX]
    exact ⟨HF.nd, fun x hx => ⟨Nat.le_trans hwV.out.size (HF.new x hx).1, by simpa [World.setCell] using (HF.new x hx).2⟩, fun x hx j => by rw [World.frozen?_setCell, World.frozen?_setCell, World.frozen?_setCell]; exact HF.free x hx j⟩
  rw [HX]
  exact ⟨d0 ++ (d1 ++ d2), ⟨p0, q0, p1, q1, p2, q2, d0, d1, d2, rfl, rfl, T0.alike spotE (al d0 hn0 (T0.lt spotE)), T1.alike roadE (al d1 hn1 (T1.lt roadE)), T2.alike banE (al d2 hn2 (T2.lt banE))⟩, hFX, hBX, XX.cell 0 (by simp), XX.cell 1 (by simp), XX.cell 2 (by simp), hcap⟩

set_option maxRecDepth 100000 in
set_option maxHeartbeats 8000000 in
theorem l9CopyC_any (a0 : Option Addr) (n0 c0 : Nat) (a1 : Option Addr) (n1 c1 : Nat) (a2 : Option Addr) (n2 c2 : Nat) (g : GraphD) (b0 b1 b2 : List Nat) (w : World) (t0 : SpotL w a0 g.places b0) (t1 : RoadL w a1 g.roads b1) (t2 : BanL w a2 g.bans b2) (e0 : g.places.length = n0) (e1 : g.roads.length = n1) (e2 : g.bans.length = n2) (m0 : n0 ≤ 1048576) (m1 : n1 ≤ 1048576) (m2 : n2 ≤ 1048576) :
    Calls Try.prog 23 #[gphV a0 n0 c0 a1 n1 c1 a2 n2 c2] w fun e w' => ∃ v' bs', e = .returned v' ∧ GphV w' v' g bs' ∧ Fresh w w' bs' ∧ Bel w w' ∧ CapG v' g.bans.length := by
  have H0 : Hid (g.places.length = n0) := e0
  have H1 : Hid (g.roads.length = n1) := e1
  have H2 : Hid (g.bans.length = n2) := e2
  obtain ⟨i0, hi0, hz0, hs0, hy0⟩ := info_parts infospt
  obtain ⟨i1, hi1, hz1, hs1, hy1⟩ := info_parts inforod
  obtain ⟨i2, hi2, hz2, hs2, hy2⟩ := info_parts infoban
  clear e0 e1 e2
  have HP : Hid ((∀ i (h : i < g.places.length), sptP g.places[i]) ∧ (∀ i (h : i < g.roads.length), rodP g.roads[i]) ∧ ∀ i (h : i < g.bans.length), banW g.bans[i]) := (⟨fun i h => by obtain ⟨_, _, _, _, _, hx⟩ := t0.out h; exact (sptF.get (hx i h)).1, fun i h => by obtain ⟨_, _, _, _, _, hx⟩ := t1.out h; exact (rodF.get (hx i h)).1, fun i h => by obtain ⟨_, _, _, _, _, hx⟩ := t2.out h; exact (banG.get (hx i h)).1⟩ : (∀ i (h : i < g.places.length), sptP g.places[i]) ∧ (∀ i (h : i < g.roads.length), rodP g.roads[i]) ∧ ∀ i (h : i < g.bans.length), banW g.bans[i])
  obtain ⟨V, HV⟩ : ∃ V, Hid (V = (w.alloc (.cells #[.slice a0 n0 c0, .slice a1 n1 c1, .slice a2 n2 c2] 34)).alloc (.cells #[.slice none 0 0, .slice none 0 0, .slice none 0 0] 34)) := ⟨_, (rfl : (w.alloc (.cells #[.slice a0 n0 c0, .slice a1 n1 c1, .slice a2 n2 c2] 34)).alloc (.cells #[.slice none 0 0, .slice none 0 0, .slice none 0 0] 34) = _)⟩
  have HV0 : Hid (Bel w V) := (by rw [HV.out]; exact bel_alloc (bel_alloc (Bel.refl _) _) _ : Bel w V)
  have XG : Blk V w.heap.size [.slice a0 n0 c0, .slice a1 n1 c1, .slice a2 n2 c2] := by rw [HV.out]; exact (Blk.new w [.slice a0 n0 c0, .slice a1 n1 c1, .slice a2 n2 c2] _).bel (bel_alloc (Bel.refl _) _)
  have XR : Blk V (w.heap.size + 1) [.slice none 0 0, .slice none 0 0, .slice none 0 0] := by rw [HV.out]; exact Blk.new1 w _ [.slice none 0 0, .slice none 0 0, .slice none 0 0] _
  have hVR : Hid (w.heap.size + 1 < V.heap.size) := XR.lt
  have HS : Hid (∀ w', Bel V w' → w'.cell? ⟨w.heap.size, 0, none⟩ = some (.slice a0 n0 c0) ∧ w'.cell? ⟨w.heap.size, 1, none⟩ = some (.slice a1 n1 c1) ∧ w'.cell? ⟨w.heap.size, 2, none⟩ = some (.slice a2 n2 c2)) := fun w' h => ⟨(XG.bel h).cell 0 (by simp), (XG.bel h).cell 1 (by simp), (XG.bel h).cell 2 (by simp)⟩
  have HSX : Hid (∀ (w' : World) (x y z : Value), Bel V w' → (((w'.setCell ⟨w.heap.size + 1, 0, none⟩ x).setCell ⟨w.heap.size + 1, 1, none⟩ y).setCell ⟨w.heap.size + 1, 2, none⟩ z).cell? ⟨w.heap.size, 0, none⟩ = some (.slice a0 n0 c0) ∧ (((w'.setCell ⟨w.heap.size + 1, 0, none⟩ x).setCell ⟨w.heap.size + 1, 1, none⟩ y).setCell ⟨w.heap.size + 1, 2, none⟩ z).cell? ⟨w.heap.size, 1, none⟩ = some (.slice a1 n1 c1) ∧ (((w'.setCell ⟨w.heap.size + 1, 0, none⟩ x).setCell ⟨w.heap.size + 1, 1, none⟩ y).setCell ⟨w.heap.size + 1, 2, none⟩ z).cell? ⟨w.heap.size, 2, none⟩ = some (.slice a2 n2 c2)) := fun w' x y z h => by
    have hb := (((XG.bel h).far (B' := w.heap.size + 1) (i := 0) (v := x) (by omega)).far (B' := w.heap.size + 1) (i := 1) (v := y) (by omega)).far (B' := w.heap.size + 1) (i := 2) (v := z) (by omega)
    exact ⟨hb.cell 0 (by simp), hb.cell 1 (by simp), hb.cell 2 (by simp)⟩
  have u0 := t0.bel spotE HV0.out
  have u1 := t1.bel roadE HV0.out
  have u2 := t2.bel banE HV0.out
  clear t0 t1 t2 XG
  go_enter Try.func23, Try.ntmps23
  go_upto_region 1 with fail
  rw [← HV.out]
  clear HV
  refine wp_region_noPanic ?_
  refine wp_region_held_drew (S := (fun w' => w'.cell? ⟨w.heap.size, 0, none⟩ = some (.slice a0 n0 c0) ∧ w'.cell? ⟨w.heap.size, 1, none⟩ = some (.slice a1 n1 c1) ∧ w'.cell? ⟨w.heap.size, 2, none⟩ = some (.slice a2 n2 c2))) (by kernel_rfl) (HS.out _ (Bel.refl _).drew) (fun hHeld => ?_)
  have hY : Bel V V.drew := (Bel.refl _).drew
  generalize V.drew = Y0 at hHeld hY ⊢
  refine wpAnyH_take (S := (fun w' => w'.cell? ⟨w.heap.size, 0, none⟩ = some (.slice a0 n0 c0) ∧ w'.cell? ⟨w.heap.size, 1, none⟩ = some (.slice a1 n1 c1) ∧ w'.cell? ⟨w.heap.size, 2, none⟩ = some (.slice a2 n2 c2))) (i := 1) (oi := { dst := some 4, op := Go.Op.fieldAddr 34 (Go.Operand.tmp 1) 0, type := 0, pos := "l09_graph.go:144", after := #[], guard := none }) (v := ?vz1) rfl (by kernel_rfl) (by kernel_rfl) (by kernel_rfl) (fun _ _ _ h => h) (Or.inl ⟨by rfl, ?hz1⟩) hHeld ?rz1
  case hz1 => (intro w hSw; (try dsimp only at hSw); obtain ⟨s0, s1, s2⟩ := hSw; go_simp; try with_reducible rfl)
  try simp only [Act.put, List.setIfInBounds_toArray, List.set_cons_zero, List.set_cons_succ]
  refine wpAnyH_take (S := (fun w' => w'.cell? ⟨w.heap.size, 0, none⟩ = some (.slice a0 n0 c0) ∧ w'.cell? ⟨w.heap.size, 1, none⟩ = some (.slice a1 n1 c1) ∧ w'.cell? ⟨w.heap.size, 2, none⟩ = some (.slice a2 n2 c2))) (i := 2) (oi := { dst := some 5, op := Go.Op.load 30 (Go.Operand.tmp 4), type := 30, pos := "l09_graph.go:144", after := #[{ on := 1, ground := Go.Ground.data }], guard := none }) (v := ?vz2) rfl (by kernel_rfl) (by kernel_rfl) (by kernel_rfl) (fun _ _ _ h => h) (Or.inl ⟨by rfl, ?hz2⟩) hHeld ?rz2
  case hz2 => (intro w hSw; (try dsimp only at hSw); obtain ⟨s0, s1, s2⟩ := hSw; go_simp; try with_reducible rfl)
  try simp only [Act.put, List.setIfInBounds_toArray, List.set_cons_zero, List.set_cons_succ]
  refine wpAnyH_take (S := (fun w' => w'.cell? ⟨w.heap.size, 0, none⟩ = some (.slice a0 n0 c0) ∧ w'.cell? ⟨w.heap.size, 1, none⟩ = some (.slice a1 n1 c1) ∧ w'.cell? ⟨w.heap.size, 2, none⟩ = some (.slice a2 n2 c2))) (i := 5) (oi := { dst := some 8, op := Go.Op.fieldAddr 34 (Go.Operand.tmp 1) 1, type := 0, pos := "l09_graph.go:144", after := #[], guard := none }) (v := ?vz3) rfl (by kernel_rfl) (by kernel_rfl) (by kernel_rfl) (fun _ _ _ h => h) (Or.inl ⟨by rfl, ?hz3⟩) hHeld ?rz3
  case hz3 => (intro w hSw; (try dsimp only at hSw); obtain ⟨s0, s1, s2⟩ := hSw; go_simp; try with_reducible rfl)
  try simp only [Act.put, List.setIfInBounds_toArray, List.set_cons_zero, List.set_cons_succ]
  refine wpAnyH_take (S := (fun w' => w'.cell? ⟨w.heap.size, 0, none⟩ = some (.slice a0 n0 c0) ∧ w'.cell? ⟨w.heap.size, 1, none⟩ = some (.slice a1 n1 c1) ∧ w'.cell? ⟨w.heap.size, 2, none⟩ = some (.slice a2 n2 c2))) (i := 6) (oi := { dst := some 9, op := Go.Op.load 31 (Go.Operand.tmp 8), type := 31, pos := "l09_graph.go:144", after := #[{ on := 5, ground := Go.Ground.data }], guard := none }) (v := ?vz4) rfl (by kernel_rfl) (by kernel_rfl) (by kernel_rfl) (fun _ _ _ h => h) (Or.inl ⟨by rfl, ?hz4⟩) hHeld ?rz4
  case hz4 => (intro w hSw; (try dsimp only at hSw); obtain ⟨s0, s1, s2⟩ := hSw; go_simp; try with_reducible rfl)
  try simp only [Act.put, List.setIfInBounds_toArray, List.set_cons_zero, List.set_cons_succ]
  refine wpAnyH_take (S := (fun w' => w'.cell? ⟨w.heap.size, 0, none⟩ = some (.slice a0 n0 c0) ∧ w'.cell? ⟨w.heap.size, 1, none⟩ = some (.slice a1 n1 c1) ∧ w'.cell? ⟨w.heap.size, 2, none⟩ = some (.slice a2 n2 c2))) (i := 9) (oi := { dst := some 12, op := Go.Op.fieldAddr 34 (Go.Operand.tmp 1) 2, type := 0, pos := "l09_graph.go:144", after := #[], guard := none }) (v := ?vz5) rfl (by kernel_rfl) (by kernel_rfl) (by kernel_rfl) (fun _ _ _ h => h) (Or.inl ⟨by rfl, ?hz5⟩) hHeld ?rz5
  case hz5 => (intro w hSw; (try dsimp only at hSw); obtain ⟨s0, s1, s2⟩ := hSw; go_simp; try with_reducible rfl)
  try simp only [Act.put, List.setIfInBounds_toArray, List.set_cons_zero, List.set_cons_succ]
  refine wpAnyH_take (S := (fun w' => w'.cell? ⟨w.heap.size, 0, none⟩ = some (.slice a0 n0 c0) ∧ w'.cell? ⟨w.heap.size, 1, none⟩ = some (.slice a1 n1 c1) ∧ w'.cell? ⟨w.heap.size, 2, none⟩ = some (.slice a2 n2 c2))) (i := 10) (oi := { dst := some 13, op := Go.Op.load 32 (Go.Operand.tmp 12), type := 32, pos := "l09_graph.go:144", after := #[{ on := 9, ground := Go.Ground.data }], guard := none }) (v := ?vz6) rfl (by kernel_rfl) (by kernel_rfl) (by kernel_rfl) (fun _ _ _ h => h) (Or.inl ⟨by rfl, ?hz6⟩) hHeld ?rz6
  case hz6 => (intro w hSw; (try dsimp only at hSw); obtain ⟨s0, s1, s2⟩ := hSw; go_simp; try with_reducible rfl)
  try simp only [Act.put, List.setIfInBounds_toArray, List.set_cons_zero, List.set_cons_succ]
  refine wpAnyH_ready (rs := [0, 4, 8]) (by kernel_rfl) (by simp) ?_
  refine AllReadyH.cons (o := { dst := some 3, op := Go.Op.buildSlice 30 0 #[], type := 30, pos := "l09_graph.go:144", after := #[], guard := none }) rfl (fun K hK => ?_) (AllReadyH.cons (o := { dst := some 7, op := Go.Op.buildSlice 31 0 #[], type := 31, pos := "l09_graph.go:144", after := #[], guard := none }) rfl (fun K hK => ?_) (AllReadyH.cons (o := { dst := some 11, op := Go.Op.buildSlice 32 0 #[], type := 32, pos := "l09_graph.go:144", after := #[], guard := none }) rfl (fun K hK => ?_) AllReadyH.nil))
  · go_simp
    refine hK.out _ _ (HS.out _ (bel_alloc hY _)) (fun hHeld' => ?_)
    clear hK K hHeld
    have hHeld := hHeld'
    clear hHeld'
    try simp only [Act.put, List.setIfInBounds_toArray, List.set_cons_zero, List.set_cons_succ]
    have own0 := World.ownsRow_made (e := 83) (size := 3) (base := V.heap.size) Y0 #[] 0 hY.out.size (by unfold maxLen; omega) (by rfl)
    have hY := bel_alloc hY (.cells #[] 83)
    generalize Y0.alloc (.cells #[] 83) = Y1 at *
    refine wpAnyH_ready (rs := [3, 4, 8]) (by kernel_rfl) (by simp) ?_
    refine AllReadyH.cons (o := { dst := some 6, op := Go.Op.call { callee := Go.Callee.builtin Go.Builtin.append, args := #[Go.Operand.tmp 3, Go.Operand.tmp 5], argTypes := #[30, 30] }, type := 30, pos := "l09_graph.go:144", after := #[{ on := 0, ground := Go.Ground.data }, { on := 2, ground := Go.Ground.data }], guard := none }) rfl (fun K hK => ?_) (AllReadyH.cons (o := { dst := some 7, op := Go.Op.buildSlice 31 0 #[], type := 31, pos := "l09_graph.go:144", after := #[], guard := none }) rfl (fun K hK => ?_) (AllReadyH.cons (o := { dst := some 11, op := Go.Op.buildSlice 32 0 #[], type := 32, pos := "l09_graph.go:144", after := #[], guard := none }) rfl (fun K hK => ?_) AllReadyH.nil))
    · refine step_flat sptF (by decide) _ rfl _ _ _ rfl V.heap.size 83 i0 (.agg #[.int .i64 0, .int .i64 0, .int .i64 0]) 24 Try.underlying30 hi0 hz0 hs0 hy0 rfl _ (by rfl) own0 _ _ _ g.places _ (by rfl) (u0.bel spotE hY) H0.out (by omega) (by decide) hY.out.size ?_
      intro vv Y2 O0 hg
      obtain ⟨p0, q0, rfl⟩ := own_shape O0
      have hY := bel_grow hY hg (fun k e => (own0.lt k e).1)
      clear hg
      refine hK.out _ _ (HS.out _ hY) (fun hHeld' => ?_)
      clear hK K hHeld
      have hHeld := hHeld'
      clear hHeld'
      try simp only [Act.put, List.setIfInBounds_toArray, List.set_cons_zero, List.set_cons_succ]
      refine rd2 4 8 (fun K hK => ?_) (fun K hK => ?_)
      · go_simp
        refine hK.out _ _ (HS.out _ (bel_alloc hY _)) (fun hHeld' => ?_)
        clear hK K hHeld
        have hHeld := hHeld'
        clear hHeld'
        try simp only [Act.put, List.setIfInBounds_toArray, List.set_cons_zero, List.set_cons_succ]
        have own1 := World.ownsRow_made (e := 72) (size := 6) (base := V.heap.size) Y2 #[] 0 hY.out.size (by unfold maxLen; omega) (by rfl)
        have O0 := O0.alloc (.cells #[] 72)
        have hY := bel_alloc hY (.cells #[] 72)
        generalize Y2.alloc (.cells #[] 72) = Y3 at *
        refine rd2 7 8 (fun K hK => ?_) (fun K hK => ?_)
        · refine step_flat rodF (by decide) _ rfl _ _ _ rfl V.heap.size 72 i1 (.agg #[.int .i64 0, .int .i64 0, .int .i64 0, .int .i64 0, .int .i64 0, .string ⟨#[]⟩]) 56 Try.underlying31 hi1 hz1 hs1 hy1 rfl _ (by rfl) own1 _ _ _ g.roads _ (by rfl) (u1.bel roadE hY) H1.out (by omega) (by decide) hY.out.size ?_
          intro vv Y4 O1 hg
          obtain ⟨p1, q1, rfl⟩ := own_shape O1
          have O0 := own_keep2 O0 own1 (by decide) hg
          have hY := bel_grow hY hg (fun k e => (own1.lt k e).1)
          clear hg
          refine hK.out _ _ (HS.out _ hY) (fun hHeld' => ?_)
          clear hK K hHeld
          have hHeld := hHeld'
          clear hHeld'
          try simp only [Act.put, List.setIfInBounds_toArray, List.set_cons_zero, List.set_cons_succ]
          refine rd1 8 (fun K hK => ?_)
          · go_simp
            refine hK.out _ _ (HS.out _ (bel_alloc hY _)) (fun hHeld' => ?_)
            clear hK K hHeld
            have hHeld := hHeld'
            clear hHeld'
            try simp only [Act.put, List.setIfInBounds_toArray, List.set_cons_zero, List.set_cons_succ]
            have own2 := World.ownsRow_made (e := 75) (size := 2) (base := V.heap.size) Y4 #[] 0 hY.out.size (by unfold maxLen; omega) (by rfl)
            have O0 := O0.alloc (.cells #[] 75)
            have O1 := O1.alloc (.cells #[] 75)
            have hY := bel_alloc hY (.cells #[] 75)
            generalize Y4.alloc (.cells #[] 75) = Y5 at *
            refine rd1 11 (fun K hK => ?_)
            · refine step_flat banG (by decide) _ rfl _ _ _ rfl V.heap.size 75 i2 (.agg #[.int .i64 0, .int .i64 0]) 16 Try.underlying32 hi2 hz2 hs2 hy2 rfl _ (by rfl) own2 _ _ _ g.bans _ (by rfl) (u2.bel banE hY) H2.out (by omega) (by decide) hY.out.size ?_
              intro vv Y6 O2 hg
              obtain ⟨p2, q2, rfl⟩ := own_shape O2
              have O0 := own_keep2 O0 own2 (by decide) hg
              have O1 := own_keep2 O1 own2 (by decide) hg
              have hY := bel_grow hY hg (fun k e => (own2.lt k e).1)
              clear hg
              refine hK.out _ _ (HS.out _ hY) (fun hHeld' => ?_)
              clear hK K hHeld
              have hHeld := hHeld'
              clear hHeld'
              try simp only [Act.put, List.setIfInBounds_toArray, List.set_cons_zero, List.set_cons_succ]
              have XRY := XR.bel hY
              have r0 := XRY.cell 0 (by simp)
              have r1 := XRY.cell 1 (by simp)
              have r2 := XRY.cell 2 (by simp)
              have f0 := XRY.free 0
              have f1 := XRY.free 1
              have f2 := XRY.free 2
              have rl := XRY.lt
              simp only [List.getElem_cons_zero, List.getElem_cons_succ] at r0 r1 r2
              have HFin := (show Hid _ from cpy_out HP.out HV0.out hVR.out XR hY XRY O0 O1 O2)
              clear own0 own1 own2 O0 O1 O2 XRY
              refine rd1 12 (fun K hK => ?_)
              go_simp
              refine hK.out _ _ (HS.out _ hY) (fun hHeld' => ?_)
              clear hK K hHeld
              have hHeld := hHeld'
              clear hHeld'
              try simp only [Act.put, List.setIfInBounds_toArray, List.set_cons_zero, List.set_cons_succ]
              refine rd1 13 (fun K hK => ?_)
              go_simp
              refine hK.out _ _ (HSX.out _ _ _ _ hY) (fun hHeld' => ?_)
              clear hK K hHeld
              have hHeld := hHeld'
              clear hHeld'
              try simp only [Act.put, List.setIfInBounds_toArray, List.set_cons_zero, List.set_cons_succ]
              obtain ⟨bs', hG, hF, hB, s0, s1, s2, hcap⟩ := HFin.out
              refine wpAnyH_done (by kernel_rfl) ?_ _
              refine NoPanic.normal ?_
              go_wp2
              exact bodyPost_ret (v := .agg #[.slice p0 g.places.length q0, .slice p1 g.roads.length q1, .slice p2 g.bans.length q2]) (by simp [results, Try.results23, go_sem, s0, s1, s2]) rfl ⟨_, bs', rfl, hG, hF, hB, _, _, _, _, rfl, hcap⟩
        · go_simp
          refine hK.out _ _ (HS.out _ (bel_alloc hY _)) (fun hHeld' => ?_)
          clear hK K hHeld
          have hHeld := hHeld'
          clear hHeld'
          try simp only [Act.put, List.setIfInBounds_toArray, List.set_cons_zero, List.set_cons_succ]
          have own2 := World.ownsRow_made (e := 75) (size := 2) (base := V.heap.size) Y3 #[] 0 hY.out.size (by unfold maxLen; omega) (by rfl)
          have own1 := own1.alloc (.cells #[] 75)
          have O0 := O0.alloc (.cells #[] 75)
          have hY := bel_alloc hY (.cells #[] 75)
          generalize Y3.alloc (.cells #[] 75) = Y4 at *
          refine rd1 7 (fun K hK => ?_)
          · refine step_flat rodF (by decide) _ rfl _ _ _ rfl V.heap.size 72 i1 (.agg #[.int .i64 0, .int .i64 0, .int .i64 0, .int .i64 0, .int .i64 0, .string ⟨#[]⟩]) 56 Try.underlying31 hi1 hz1 hs1 hy1 rfl _ (by rfl) own1 _ _ _ g.roads _ (by rfl) (u1.bel roadE hY) H1.out (by omega) (by decide) hY.out.size ?_
            intro vv Y5 O1 hg
            obtain ⟨p1, q1, rfl⟩ := own_shape O1
            have own2 := own_keep2 own2 own1 (by decide) hg
            have O0 := own_keep2 O0 own1 (by decide) hg
            have hY := bel_grow hY hg (fun k e => (own1.lt k e).1)
            clear hg
            refine hK.out _ _ (HS.out _ hY) (fun hHeld' => ?_)
            clear hK K hHeld
            have hHeld := hHeld'
            clear hHeld'
            try simp only [Act.put, List.setIfInBounds_toArray, List.set_cons_zero, List.set_cons_succ]
            refine rd1 11 (fun K hK => ?_)
            · refine step_flat banG (by decide) _ rfl _ _ _ rfl V.heap.size 75 i2 (.agg #[.int .i64 0, .int .i64 0]) 16 Try.underlying32 hi2 hz2 hs2 hy2 rfl _ (by rfl) own2 _ _ _ g.bans _ (by rfl) (u2.bel banE hY) H2.out (by omega) (by decide) hY.out.size ?_
              intro vv Y6 O2 hg
              obtain ⟨p2, q2, rfl⟩ := own_shape O2
              have O0 := own_keep2 O0 own2 (by decide) hg
              have O1 := own_keep2 O1 own2 (by decide) hg
              have hY := bel_grow hY hg (fun k e => (own2.lt k e).1)
              clear hg
              refine hK.out _ _ (HS.out _ hY) (fun hHeld' => ?_)
              clear hK K hHeld
              have hHeld := hHeld'
              clear hHeld'
              try simp only [Act.put, List.setIfInBounds_toArray, List.set_cons_zero, List.set_cons_succ]
              have XRY := XR.bel hY
              have r0 := XRY.cell 0 (by simp)
              have r1 := XRY.cell 1 (by simp)
              have r2 := XRY.cell 2 (by simp)
              have f0 := XRY.free 0
              have f1 := XRY.free 1
              have f2 := XRY.free 2
              have rl := XRY.lt
              simp only [List.getElem_cons_zero, List.getElem_cons_succ] at r0 r1 r2
              have HFin := (show Hid _ from cpy_out HP.out HV0.out hVR.out XR hY XRY O0 O1 O2)
              clear own0 own1 own2 O0 O1 O2 XRY
              refine rd1 12 (fun K hK => ?_)
              go_simp
              refine hK.out _ _ (HS.out _ hY) (fun hHeld' => ?_)
              clear hK K hHeld
              have hHeld := hHeld'
              clear hHeld'
              try simp only [Act.put, List.setIfInBounds_toArray, List.set_cons_zero, List.set_cons_succ]
              refine rd1 13 (fun K hK => ?_)
              go_simp
              refine hK.out _ _ (HSX.out _ _ _ _ hY) (fun hHeld' => ?_)
              clear hK K hHeld
              have hHeld := hHeld'
              clear hHeld'
              try simp only [Act.put, List.setIfInBounds_toArray, List.set_cons_zero, List.set_cons_succ]
              obtain ⟨bs', hG, hF, hB, s0, s1, s2, hcap⟩ := HFin.out
              refine wpAnyH_done (by kernel_rfl) ?_ _
              refine NoPanic.normal ?_
              go_wp2
              exact bodyPost_ret (v := .agg #[.slice p0 g.places.length q0, .slice p1 g.roads.length q1, .slice p2 g.bans.length q2]) (by simp [results, Try.results23, go_sem, s0, s1, s2]) rfl ⟨_, bs', rfl, hG, hF, hB, _, _, _, _, rfl, hcap⟩
      · go_simp
        refine hK.out _ _ (HS.out _ (bel_alloc hY _)) (fun hHeld' => ?_)
        clear hK K hHeld
        have hHeld := hHeld'
        clear hHeld'
        try simp only [Act.put, List.setIfInBounds_toArray, List.set_cons_zero, List.set_cons_succ]
        have own2 := World.ownsRow_made (e := 75) (size := 2) (base := V.heap.size) Y2 #[] 0 hY.out.size (by unfold maxLen; omega) (by rfl)
        have O0 := O0.alloc (.cells #[] 75)
        have hY := bel_alloc hY (.cells #[] 75)
        generalize Y2.alloc (.cells #[] 75) = Y3 at *
        refine rd1 4 (fun K hK => ?_)
        · go_simp
          refine hK.out _ _ (HS.out _ (bel_alloc hY _)) (fun hHeld' => ?_)
          clear hK K hHeld
          have hHeld := hHeld'
          clear hHeld'
          try simp only [Act.put, List.setIfInBounds_toArray, List.set_cons_zero, List.set_cons_succ]
          have own1 := World.ownsRow_made (e := 72) (size := 6) (base := V.heap.size) Y3 #[] 0 hY.out.size (by unfold maxLen; omega) (by rfl)
          have own2 := own2.alloc (.cells #[] 72)
          have O0 := O0.alloc (.cells #[] 72)
          have hY := bel_alloc hY (.cells #[] 72)
          generalize Y3.alloc (.cells #[] 72) = Y4 at *
          refine rd1 7 (fun K hK => ?_)
          · refine step_flat rodF (by decide) _ rfl _ _ _ rfl V.heap.size 72 i1 (.agg #[.int .i64 0, .int .i64 0, .int .i64 0, .int .i64 0, .int .i64 0, .string ⟨#[]⟩]) 56 Try.underlying31 hi1 hz1 hs1 hy1 rfl _ (by rfl) own1 _ _ _ g.roads _ (by rfl) (u1.bel roadE hY) H1.out (by omega) (by decide) hY.out.size ?_
            intro vv Y5 O1 hg
            obtain ⟨p1, q1, rfl⟩ := own_shape O1
            have own2 := own_keep2 own2 own1 (by decide) hg
            have O0 := own_keep2 O0 own1 (by decide) hg
            have hY := bel_grow hY hg (fun k e => (own1.lt k e).1)
            clear hg
            refine hK.out _ _ (HS.out _ hY) (fun hHeld' => ?_)
            clear hK K hHeld
            have hHeld := hHeld'
            clear hHeld'
            try simp only [Act.put, List.setIfInBounds_toArray, List.set_cons_zero, List.set_cons_succ]
            refine rd1 11 (fun K hK => ?_)
            · refine step_flat banG (by decide) _ rfl _ _ _ rfl V.heap.size 75 i2 (.agg #[.int .i64 0, .int .i64 0]) 16 Try.underlying32 hi2 hz2 hs2 hy2 rfl _ (by rfl) own2 _ _ _ g.bans _ (by rfl) (u2.bel banE hY) H2.out (by omega) (by decide) hY.out.size ?_
              intro vv Y6 O2 hg
              obtain ⟨p2, q2, rfl⟩ := own_shape O2
              have O0 := own_keep2 O0 own2 (by decide) hg
              have O1 := own_keep2 O1 own2 (by decide) hg
              have hY := bel_grow hY hg (fun k e => (own2.lt k e).1)
              clear hg
              refine hK.out _ _ (HS.out _ hY) (fun hHeld' => ?_)
              clear hK K hHeld
              have hHeld := hHeld'
              clear hHeld'
              try simp only [Act.put, List.setIfInBounds_toArray, List.set_cons_zero, List.set_cons_succ]
              have XRY := XR.bel hY
              have r0 := XRY.cell 0 (by simp)
              have r1 := XRY.cell 1 (by simp)
              have r2 := XRY.cell 2 (by simp)
              have f0 := XRY.free 0
              have f1 := XRY.free 1
              have f2 := XRY.free 2
              have rl := XRY.lt
              simp only [List.getElem_cons_zero, List.getElem_cons_succ] at r0 r1 r2
              have HFin := (show Hid _ from cpy_out HP.out HV0.out hVR.out XR hY XRY O0 O1 O2)
              clear own0 own1 own2 O0 O1 O2 XRY
              refine rd1 12 (fun K hK => ?_)
              go_simp
              refine hK.out _ _ (HS.out _ hY) (fun hHeld' => ?_)
              clear hK K hHeld
              have hHeld := hHeld'
              clear hHeld'
              try simp only [Act.put, List.setIfInBounds_toArray, List.set_cons_zero, List.set_cons_succ]
              refine rd1 13 (fun K hK => ?_)
              go_simp
              refine hK.out _ _ (HSX.out _ _ _ _ hY) (fun hHeld' => ?_)
              clear hK K hHeld
              have hHeld := hHeld'
              clear hHeld'
              try simp only [Act.put, List.setIfInBounds_toArray, List.set_cons_zero, List.set_cons_succ]
              obtain ⟨bs', hG, hF, hB, s0, s1, s2, hcap⟩ := HFin.out
              refine wpAnyH_done (by kernel_rfl) ?_ _
              refine NoPanic.normal ?_
              go_wp2
              exact bodyPost_ret (v := .agg #[.slice p0 g.places.length q0, .slice p1 g.roads.length q1, .slice p2 g.bans.length q2]) (by simp [results, Try.results23, go_sem, s0, s1, s2]) rfl ⟨_, bs', rfl, hG, hF, hB, _, _, _, _, rfl, hcap⟩
    · go_simp
      refine hK.out _ _ (HS.out _ (bel_alloc hY _)) (fun hHeld' => ?_)
      clear hK K hHeld
      have hHeld := hHeld'
      clear hHeld'
      try simp only [Act.put, List.setIfInBounds_toArray, List.set_cons_zero, List.set_cons_succ]
      have own1 := World.ownsRow_made (e := 72) (size := 6) (base := V.heap.size) Y1 #[] 0 hY.out.size (by unfold maxLen; omega) (by rfl)
      have own0 := own0.alloc (.cells #[] 72)
      have hY := bel_alloc hY (.cells #[] 72)
      generalize Y1.alloc (.cells #[] 72) = Y2 at *
      refine rd2 3 8 (fun K hK => ?_) (fun K hK => ?_)
      · refine step_flat sptF (by decide) _ rfl _ _ _ rfl V.heap.size 83 i0 (.agg #[.int .i64 0, .int .i64 0, .int .i64 0]) 24 Try.underlying30 hi0 hz0 hs0 hy0 rfl _ (by rfl) own0 _ _ _ g.places _ (by rfl) (u0.bel spotE hY) H0.out (by omega) (by decide) hY.out.size ?_
        intro vv Y3 O0 hg
        obtain ⟨p0, q0, rfl⟩ := own_shape O0
        have own1 := own_keep2 own1 own0 (by decide) hg
        have hY := bel_grow hY hg (fun k e => (own0.lt k e).1)
        clear hg
        refine hK.out _ _ (HS.out _ hY) (fun hHeld' => ?_)
        clear hK K hHeld
        have hHeld := hHeld'
        clear hHeld'
        try simp only [Act.put, List.setIfInBounds_toArray, List.set_cons_zero, List.set_cons_succ]
        refine rd2 7 8 (fun K hK => ?_) (fun K hK => ?_)
        · refine step_flat rodF (by decide) _ rfl _ _ _ rfl V.heap.size 72 i1 (.agg #[.int .i64 0, .int .i64 0, .int .i64 0, .int .i64 0, .int .i64 0, .string ⟨#[]⟩]) 56 Try.underlying31 hi1 hz1 hs1 hy1 rfl _ (by rfl) own1 _ _ _ g.roads _ (by rfl) (u1.bel roadE hY) H1.out (by omega) (by decide) hY.out.size ?_
          intro vv Y4 O1 hg
          obtain ⟨p1, q1, rfl⟩ := own_shape O1
          have O0 := own_keep2 O0 own1 (by decide) hg
          have hY := bel_grow hY hg (fun k e => (own1.lt k e).1)
          clear hg
          refine hK.out _ _ (HS.out _ hY) (fun hHeld' => ?_)
          clear hK K hHeld
          have hHeld := hHeld'
          clear hHeld'
          try simp only [Act.put, List.setIfInBounds_toArray, List.set_cons_zero, List.set_cons_succ]
          refine rd1 8 (fun K hK => ?_)
          · go_simp
            refine hK.out _ _ (HS.out _ (bel_alloc hY _)) (fun hHeld' => ?_)
            clear hK K hHeld
            have hHeld := hHeld'
            clear hHeld'
            try simp only [Act.put, List.setIfInBounds_toArray, List.set_cons_zero, List.set_cons_succ]
            have own2 := World.ownsRow_made (e := 75) (size := 2) (base := V.heap.size) Y4 #[] 0 hY.out.size (by unfold maxLen; omega) (by rfl)
            have O0 := O0.alloc (.cells #[] 75)
            have O1 := O1.alloc (.cells #[] 75)
            have hY := bel_alloc hY (.cells #[] 75)
            generalize Y4.alloc (.cells #[] 75) = Y5 at *
            refine rd1 11 (fun K hK => ?_)
            · refine step_flat banG (by decide) _ rfl _ _ _ rfl V.heap.size 75 i2 (.agg #[.int .i64 0, .int .i64 0]) 16 Try.underlying32 hi2 hz2 hs2 hy2 rfl _ (by rfl) own2 _ _ _ g.bans _ (by rfl) (u2.bel banE hY) H2.out (by omega) (by decide) hY.out.size ?_
              intro vv Y6 O2 hg
              obtain ⟨p2, q2, rfl⟩ := own_shape O2
              have O0 := own_keep2 O0 own2 (by decide) hg
              have O1 := own_keep2 O1 own2 (by decide) hg
              have hY := bel_grow hY hg (fun k e => (own2.lt k e).1)
              clear hg
              refine hK.out _ _ (HS.out _ hY) (fun hHeld' => ?_)
              clear hK K hHeld
              have hHeld := hHeld'
              clear hHeld'
              try simp only [Act.put, List.setIfInBounds_toArray, List.set_cons_zero, List.set_cons_succ]
              have XRY := XR.bel hY
              have r0 := XRY.cell 0 (by simp)
              have r1 := XRY.cell 1 (by simp)
              have r2 := XRY.cell 2 (by simp)
              have f0 := XRY.free 0
              have f1 := XRY.free 1
              have f2 := XRY.free 2
              have rl := XRY.lt
              simp only [List.getElem_cons_zero, List.getElem_cons_succ] at r0 r1 r2
              have HFin := (show Hid _ from cpy_out HP.out HV0.out hVR.out XR hY XRY O0 O1 O2)
              clear own0 own1 own2 O0 O1 O2 XRY
              refine rd1 12 (fun K hK => ?_)
              go_simp
              refine hK.out _ _ (HS.out _ hY) (fun hHeld' => ?_)
              clear hK K hHeld
              have hHeld := hHeld'
              clear hHeld'
              try simp only [Act.put, List.setIfInBounds_toArray, List.set_cons_zero, List.set_cons_succ]
              refine rd1 13 (fun K hK => ?_)
              go_simp
              refine hK.out _ _ (HSX.out _ _ _ _ hY) (fun hHeld' => ?_)
              clear hK K hHeld
              have hHeld := hHeld'
              clear hHeld'
              try simp only [Act.put, List.setIfInBounds_toArray, List.set_cons_zero, List.set_cons_succ]
              obtain ⟨bs', hG, hF, hB, s0, s1, s2, hcap⟩ := HFin.out
              refine wpAnyH_done (by kernel_rfl) ?_ _
              refine NoPanic.normal ?_
              go_wp2
              exact bodyPost_ret (v := .agg #[.slice p0 g.places.length q0, .slice p1 g.roads.length q1, .slice p2 g.bans.length q2]) (by simp [results, Try.results23, go_sem, s0, s1, s2]) rfl ⟨_, bs', rfl, hG, hF, hB, _, _, _, _, rfl, hcap⟩
        · go_simp
          refine hK.out _ _ (HS.out _ (bel_alloc hY _)) (fun hHeld' => ?_)
          clear hK K hHeld
          have hHeld := hHeld'
          clear hHeld'
          try simp only [Act.put, List.setIfInBounds_toArray, List.set_cons_zero, List.set_cons_succ]
          have own2 := World.ownsRow_made (e := 75) (size := 2) (base := V.heap.size) Y3 #[] 0 hY.out.size (by unfold maxLen; omega) (by rfl)
          have own1 := own1.alloc (.cells #[] 75)
          have O0 := O0.alloc (.cells #[] 75)
          have hY := bel_alloc hY (.cells #[] 75)
          generalize Y3.alloc (.cells #[] 75) = Y4 at *
          refine rd1 7 (fun K hK => ?_)
          · refine step_flat rodF (by decide) _ rfl _ _ _ rfl V.heap.size 72 i1 (.agg #[.int .i64 0, .int .i64 0, .int .i64 0, .int .i64 0, .int .i64 0, .string ⟨#[]⟩]) 56 Try.underlying31 hi1 hz1 hs1 hy1 rfl _ (by rfl) own1 _ _ _ g.roads _ (by rfl) (u1.bel roadE hY) H1.out (by omega) (by decide) hY.out.size ?_
            intro vv Y5 O1 hg
            obtain ⟨p1, q1, rfl⟩ := own_shape O1
            have own2 := own_keep2 own2 own1 (by decide) hg
            have O0 := own_keep2 O0 own1 (by decide) hg
            have hY := bel_grow hY hg (fun k e => (own1.lt k e).1)
            clear hg
            refine hK.out _ _ (HS.out _ hY) (fun hHeld' => ?_)
            clear hK K hHeld
            have hHeld := hHeld'
            clear hHeld'
            try simp only [Act.put, List.setIfInBounds_toArray, List.set_cons_zero, List.set_cons_succ]
            refine rd1 11 (fun K hK => ?_)
            · refine step_flat banG (by decide) _ rfl _ _ _ rfl V.heap.size 75 i2 (.agg #[.int .i64 0, .int .i64 0]) 16 Try.underlying32 hi2 hz2 hs2 hy2 rfl _ (by rfl) own2 _ _ _ g.bans _ (by rfl) (u2.bel banE hY) H2.out (by omega) (by decide) hY.out.size ?_
              intro vv Y6 O2 hg
              obtain ⟨p2, q2, rfl⟩ := own_shape O2
              have O0 := own_keep2 O0 own2 (by decide) hg
              have O1 := own_keep2 O1 own2 (by decide) hg
              have hY := bel_grow hY hg (fun k e => (own2.lt k e).1)
              clear hg
              refine hK.out _ _ (HS.out _ hY) (fun hHeld' => ?_)
              clear hK K hHeld
              have hHeld := hHeld'
              clear hHeld'
              try simp only [Act.put, List.setIfInBounds_toArray, List.set_cons_zero, List.set_cons_succ]
              have XRY := XR.bel hY
              have r0 := XRY.cell 0 (by simp)
              have r1 := XRY.cell 1 (by simp)
              have r2 := XRY.cell 2 (by simp)
              have f0 := XRY.free 0
              have f1 := XRY.free 1
              have f2 := XRY.free 2
              have rl := XRY.lt
              simp only [List.getElem_cons_zero, List.getElem_cons_succ] at r0 r1 r2
              have HFin := (show Hid _ from cpy_out HP.out HV0.out hVR.out XR hY XRY O0 O1 O2)
              clear own0 own1 own2 O0 O1 O2 XRY
              refine rd1 12 (fun K hK => ?_)
              go_simp
              refine hK.out _ _ (HS.out _ hY) (fun hHeld' => ?_)
              clear hK K hHeld
              have hHeld := hHeld'
              clear hHeld'
              try simp only [Act.put, List.setIfInBounds_toArray, List.set_cons_zero, List.set_cons_succ]
              refine rd1 13 (fun K hK => ?_)
              go_simp
              refine hK.out _ _ (HSX.out _ _ _ _ hY) (fun hHeld' => ?_)
              clear hK K hHeld
              have hHeld := hHeld'
              clear hHeld'
              try simp only [Act.put, List.setIfInBounds_toArray, List.set_cons_zero, List.set_cons_succ]
              obtain ⟨bs', hG, hF, hB, s0, s1, s2, hcap⟩ := HFin.out
              refine wpAnyH_done (by kernel_rfl) ?_ _
              refine NoPanic.normal ?_
              go_wp2
              exact bodyPost_ret (v := .agg #[.slice p0 g.places.length q0, .slice p1 g.roads.length q1, .slice p2 g.bans.length q2]) (by simp [results, Try.results23, go_sem, s0, s1, s2]) rfl ⟨_, bs', rfl, hG, hF, hB, _, _, _, _, rfl, hcap⟩
      · go_simp
        refine hK.out _ _ (HS.out _ (bel_alloc hY _)) (fun hHeld' => ?_)
        clear hK K hHeld
        have hHeld := hHeld'
        clear hHeld'
        try simp only [Act.put, List.setIfInBounds_toArray, List.set_cons_zero, List.set_cons_succ]
        have own2 := World.ownsRow_made (e := 75) (size := 2) (base := V.heap.size) Y2 #[] 0 hY.out.size (by unfold maxLen; omega) (by rfl)
        have own0 := own0.alloc (.cells #[] 75)
        have own1 := own1.alloc (.cells #[] 75)
        have hY := bel_alloc hY (.cells #[] 75)
        generalize Y2.alloc (.cells #[] 75) = Y3 at *
        refine rd1 3 (fun K hK => ?_)
        · refine step_flat sptF (by decide) _ rfl _ _ _ rfl V.heap.size 83 i0 (.agg #[.int .i64 0, .int .i64 0, .int .i64 0]) 24 Try.underlying30 hi0 hz0 hs0 hy0 rfl _ (by rfl) own0 _ _ _ g.places _ (by rfl) (u0.bel spotE hY) H0.out (by omega) (by decide) hY.out.size ?_
          intro vv Y4 O0 hg
          obtain ⟨p0, q0, rfl⟩ := own_shape O0
          have own1 := own_keep2 own1 own0 (by decide) hg
          have own2 := own_keep2 own2 own0 (by decide) hg
          have hY := bel_grow hY hg (fun k e => (own0.lt k e).1)
          clear hg
          refine hK.out _ _ (HS.out _ hY) (fun hHeld' => ?_)
          clear hK K hHeld
          have hHeld := hHeld'
          clear hHeld'
          try simp only [Act.put, List.setIfInBounds_toArray, List.set_cons_zero, List.set_cons_succ]
          refine rd1 7 (fun K hK => ?_)
          · refine step_flat rodF (by decide) _ rfl _ _ _ rfl V.heap.size 72 i1 (.agg #[.int .i64 0, .int .i64 0, .int .i64 0, .int .i64 0, .int .i64 0, .string ⟨#[]⟩]) 56 Try.underlying31 hi1 hz1 hs1 hy1 rfl _ (by rfl) own1 _ _ _ g.roads _ (by rfl) (u1.bel roadE hY) H1.out (by omega) (by decide) hY.out.size ?_
            intro vv Y5 O1 hg
            obtain ⟨p1, q1, rfl⟩ := own_shape O1
            have own2 := own_keep2 own2 own1 (by decide) hg
            have O0 := own_keep2 O0 own1 (by decide) hg
            have hY := bel_grow hY hg (fun k e => (own1.lt k e).1)
            clear hg
            refine hK.out _ _ (HS.out _ hY) (fun hHeld' => ?_)
            clear hK K hHeld
            have hHeld := hHeld'
            clear hHeld'
            try simp only [Act.put, List.setIfInBounds_toArray, List.set_cons_zero, List.set_cons_succ]
            refine rd1 11 (fun K hK => ?_)
            · refine step_flat banG (by decide) _ rfl _ _ _ rfl V.heap.size 75 i2 (.agg #[.int .i64 0, .int .i64 0]) 16 Try.underlying32 hi2 hz2 hs2 hy2 rfl _ (by rfl) own2 _ _ _ g.bans _ (by rfl) (u2.bel banE hY) H2.out (by omega) (by decide) hY.out.size ?_
              intro vv Y6 O2 hg
              obtain ⟨p2, q2, rfl⟩ := own_shape O2
              have O0 := own_keep2 O0 own2 (by decide) hg
              have O1 := own_keep2 O1 own2 (by decide) hg
              have hY := bel_grow hY hg (fun k e => (own2.lt k e).1)
              clear hg
              refine hK.out _ _ (HS.out _ hY) (fun hHeld' => ?_)
              clear hK K hHeld
              have hHeld := hHeld'
              clear hHeld'
              try simp only [Act.put, List.setIfInBounds_toArray, List.set_cons_zero, List.set_cons_succ]
              have XRY := XR.bel hY
              have r0 := XRY.cell 0 (by simp)
              have r1 := XRY.cell 1 (by simp)
              have r2 := XRY.cell 2 (by simp)
              have f0 := XRY.free 0
              have f1 := XRY.free 1
              have f2 := XRY.free 2
              have rl := XRY.lt
              simp only [List.getElem_cons_zero, List.getElem_cons_succ] at r0 r1 r2
              have HFin := (show Hid _ from cpy_out HP.out HV0.out hVR.out XR hY XRY O0 O1 O2)
              clear own0 own1 own2 O0 O1 O2 XRY
              refine rd1 12 (fun K hK => ?_)
              go_simp
              refine hK.out _ _ (HS.out _ hY) (fun hHeld' => ?_)
              clear hK K hHeld
              have hHeld := hHeld'
              clear hHeld'
              try simp only [Act.put, List.setIfInBounds_toArray, List.set_cons_zero, List.set_cons_succ]
              refine rd1 13 (fun K hK => ?_)
              go_simp
              refine hK.out _ _ (HSX.out _ _ _ _ hY) (fun hHeld' => ?_)
              clear hK K hHeld
              have hHeld := hHeld'
              clear hHeld'
              try simp only [Act.put, List.setIfInBounds_toArray, List.set_cons_zero, List.set_cons_succ]
              obtain ⟨bs', hG, hF, hB, s0, s1, s2, hcap⟩ := HFin.out
              refine wpAnyH_done (by kernel_rfl) ?_ _
              refine NoPanic.normal ?_
              go_wp2
              exact bodyPost_ret (v := .agg #[.slice p0 g.places.length q0, .slice p1 g.roads.length q1, .slice p2 g.bans.length q2]) (by simp [results, Try.results23, go_sem, s0, s1, s2]) rfl ⟨_, bs', rfl, hG, hF, hB, _, _, _, _, rfl, hcap⟩
    · go_simp
      refine hK.out _ _ (HS.out _ (bel_alloc hY _)) (fun hHeld' => ?_)
      clear hK K hHeld
      have hHeld := hHeld'
      clear hHeld'
      try simp only [Act.put, List.setIfInBounds_toArray, List.set_cons_zero, List.set_cons_succ]
      have own2 := World.ownsRow_made (e := 75) (size := 2) (base := V.heap.size) Y1 #[] 0 hY.out.size (by unfold maxLen; omega) (by rfl)
      have own0 := own0.alloc (.cells #[] 75)
      have hY := bel_alloc hY (.cells #[] 75)
      generalize Y1.alloc (.cells #[] 75) = Y2 at *
      refine rd2 3 4 (fun K hK => ?_) (fun K hK => ?_)
      · refine step_flat sptF (by decide) _ rfl _ _ _ rfl V.heap.size 83 i0 (.agg #[.int .i64 0, .int .i64 0, .int .i64 0]) 24 Try.underlying30 hi0 hz0 hs0 hy0 rfl _ (by rfl) own0 _ _ _ g.places _ (by rfl) (u0.bel spotE hY) H0.out (by omega) (by decide) hY.out.size ?_
        intro vv Y3 O0 hg
        obtain ⟨p0, q0, rfl⟩ := own_shape O0
        have own2 := own_keep2 own2 own0 (by decide) hg
        have hY := bel_grow hY hg (fun k e => (own0.lt k e).1)
        clear hg
        refine hK.out _ _ (HS.out _ hY) (fun hHeld' => ?_)
        clear hK K hHeld
        have hHeld := hHeld'
        clear hHeld'
        try simp only [Act.put, List.setIfInBounds_toArray, List.set_cons_zero, List.set_cons_succ]
        refine rd1 4 (fun K hK => ?_)
        · go_simp
          refine hK.out _ _ (HS.out _ (bel_alloc hY _)) (fun hHeld' => ?_)
          clear hK K hHeld
          have hHeld := hHeld'
          clear hHeld'
          try simp only [Act.put, List.setIfInBounds_toArray, List.set_cons_zero, List.set_cons_succ]
          have own1 := World.ownsRow_made (e := 72) (size := 6) (base := V.heap.size) Y3 #[] 0 hY.out.size (by unfold maxLen; omega) (by rfl)
          have own2 := own2.alloc (.cells #[] 72)
          have O0 := O0.alloc (.cells #[] 72)
          have hY := bel_alloc hY (.cells #[] 72)
          generalize Y3.alloc (.cells #[] 72) = Y4 at *
          refine rd1 7 (fun K hK => ?_)
          · refine step_flat rodF (by decide) _ rfl _ _ _ rfl V.heap.size 72 i1 (.agg #[.int .i64 0, .int .i64 0, .int .i64 0, .int .i64 0, .int .i64 0, .string ⟨#[]⟩]) 56 Try.underlying31 hi1 hz1 hs1 hy1 rfl _ (by rfl) own1 _ _ _ g.roads _ (by rfl) (u1.bel roadE hY) H1.out (by omega) (by decide) hY.out.size ?_
            intro vv Y5 O1 hg
            obtain ⟨p1, q1, rfl⟩ := own_shape O1
            have own2 := own_keep2 own2 own1 (by decide) hg
            have O0 := own_keep2 O0 own1 (by decide) hg
            have hY := bel_grow hY hg (fun k e => (own1.lt k e).1)
            clear hg
            refine hK.out _ _ (HS.out _ hY) (fun hHeld' => ?_)
            clear hK K hHeld
            have hHeld := hHeld'
            clear hHeld'
            try simp only [Act.put, List.setIfInBounds_toArray, List.set_cons_zero, List.set_cons_succ]
            refine rd1 11 (fun K hK => ?_)
            · refine step_flat banG (by decide) _ rfl _ _ _ rfl V.heap.size 75 i2 (.agg #[.int .i64 0, .int .i64 0]) 16 Try.underlying32 hi2 hz2 hs2 hy2 rfl _ (by rfl) own2 _ _ _ g.bans _ (by rfl) (u2.bel banE hY) H2.out (by omega) (by decide) hY.out.size ?_
              intro vv Y6 O2 hg
              obtain ⟨p2, q2, rfl⟩ := own_shape O2
              have O0 := own_keep2 O0 own2 (by decide) hg
              have O1 := own_keep2 O1 own2 (by decide) hg
              have hY := bel_grow hY hg (fun k e => (own2.lt k e).1)
              clear hg
              refine hK.out _ _ (HS.out _ hY) (fun hHeld' => ?_)
              clear hK K hHeld
              have hHeld := hHeld'
              clear hHeld'
              try simp only [Act.put, List.setIfInBounds_toArray, List.set_cons_zero, List.set_cons_succ]
              have XRY := XR.bel hY
              have r0 := XRY.cell 0 (by simp)
              have r1 := XRY.cell 1 (by simp)
              have r2 := XRY.cell 2 (by simp)
              have f0 := XRY.free 0
              have f1 := XRY.free 1
              have f2 := XRY.free 2
              have rl := XRY.lt
              simp only [List.getElem_cons_zero, List.getElem_cons_succ] at r0 r1 r2
              have HFin := (show Hid _ from cpy_out HP.out HV0.out hVR.out XR hY XRY O0 O1 O2)
              clear own0 own1 own2 O0 O1 O2 XRY
              refine rd1 12 (fun K hK => ?_)
              go_simp
              refine hK.out _ _ (HS.out _ hY) (fun hHeld' => ?_)
              clear hK K hHeld
              have hHeld := hHeld'
              clear hHeld'
              try simp only [Act.put, List.setIfInBounds_toArray, List.set_cons_zero, List.set_cons_succ]
              refine rd1 13 (fun K hK => ?_)
              go_simp
              refine hK.out _ _ (HSX.out _ _ _ _ hY) (fun hHeld' => ?_)
              clear hK K hHeld
              have hHeld := hHeld'
              clear hHeld'
              try simp only [Act.put, List.setIfInBounds_toArray, List.set_cons_zero, List.set_cons_succ]
              obtain ⟨bs', hG, hF, hB, s0, s1, s2, hcap⟩ := HFin.out
              refine wpAnyH_done (by kernel_rfl) ?_ _
              refine NoPanic.normal ?_
              go_wp2
              exact bodyPost_ret (v := .agg #[.slice p0 g.places.length q0, .slice p1 g.roads.length q1, .slice p2 g.bans.length q2]) (by simp [results, Try.results23, go_sem, s0, s1, s2]) rfl ⟨_, bs', rfl, hG, hF, hB, _, _, _, _, rfl, hcap⟩
      · go_simp
        refine hK.out _ _ (HS.out _ (bel_alloc hY _)) (fun hHeld' => ?_)
        clear hK K hHeld
        have hHeld := hHeld'
        clear hHeld'
        try simp only [Act.put, List.setIfInBounds_toArray, List.set_cons_zero, List.set_cons_succ]
        have own1 := World.ownsRow_made (e := 72) (size := 6) (base := V.heap.size) Y2 #[] 0 hY.out.size (by unfold maxLen; omega) (by rfl)
        have own0 := own0.alloc (.cells #[] 72)
        have own2 := own2.alloc (.cells #[] 72)
        have hY := bel_alloc hY (.cells #[] 72)
        generalize Y2.alloc (.cells #[] 72) = Y3 at *
        refine rd1 3 (fun K hK => ?_)
        · refine step_flat sptF (by decide) _ rfl _ _ _ rfl V.heap.size 83 i0 (.agg #[.int .i64 0, .int .i64 0, .int .i64 0]) 24 Try.underlying30 hi0 hz0 hs0 hy0 rfl _ (by rfl) own0 _ _ _ g.places _ (by rfl) (u0.bel spotE hY) H0.out (by omega) (by decide) hY.out.size ?_
          intro vv Y4 O0 hg
          obtain ⟨p0, q0, rfl⟩ := own_shape O0
          have own1 := own_keep2 own1 own0 (by decide) hg
          have own2 := own_keep2 own2 own0 (by decide) hg
          have hY := bel_grow hY hg (fun k e => (own0.lt k e).1)
          clear hg
          refine hK.out _ _ (HS.out _ hY) (fun hHeld' => ?_)
          clear hK K hHeld
          have hHeld := hHeld'
          clear hHeld'
          try simp only [Act.put, List.setIfInBounds_toArray, List.set_cons_zero, List.set_cons_succ]
          refine rd1 7 (fun K hK => ?_)
          · refine step_flat rodF (by decide) _ rfl _ _ _ rfl V.heap.size 72 i1 (.agg #[.int .i64 0, .int .i64 0, .int .i64 0, .int .i64 0, .int .i64 0, .string ⟨#[]⟩]) 56 Try.underlying31 hi1 hz1 hs1 hy1 rfl _ (by rfl) own1 _ _ _ g.roads _ (by rfl) (u1.bel roadE hY) H1.out (by omega) (by decide) hY.out.size ?_
            intro vv Y5 O1 hg
            obtain ⟨p1, q1, rfl⟩ := own_shape O1
            have own2 := own_keep2 own2 own1 (by decide) hg
            have O0 := own_keep2 O0 own1 (by decide) hg
            have hY := bel_grow hY hg (fun k e => (own1.lt k e).1)
            clear hg
            refine hK.out _ _ (HS.out _ hY) (fun hHeld' => ?_)
            clear hK K hHeld
            have hHeld := hHeld'
            clear hHeld'
            try simp only [Act.put, List.setIfInBounds_toArray, List.set_cons_zero, List.set_cons_succ]
            refine rd1 11 (fun K hK => ?_)
            · refine step_flat banG (by decide) _ rfl _ _ _ rfl V.heap.size 75 i2 (.agg #[.int .i64 0, .int .i64 0]) 16 Try.underlying32 hi2 hz2 hs2 hy2 rfl _ (by rfl) own2 _ _ _ g.bans _ (by rfl) (u2.bel banE hY) H2.out (by omega) (by decide) hY.out.size ?_
              intro vv Y6 O2 hg
              obtain ⟨p2, q2, rfl⟩ := own_shape O2
              have O0 := own_keep2 O0 own2 (by decide) hg
              have O1 := own_keep2 O1 own2 (by decide) hg
              have hY := bel_grow hY hg (fun k e => (own2.lt k e).1)
              clear hg
              refine hK.out _ _ (HS.out _ hY) (fun hHeld' => ?_)
              clear hK K hHeld
              have hHeld := hHeld'
              clear hHeld'
              try simp only [Act.put, List.setIfInBounds_toArray, List.set_cons_zero, List.set_cons_succ]
              have XRY := XR.bel hY
              have r0 := XRY.cell 0 (by simp)
              have r1 := XRY.cell 1 (by simp)
              have r2 := XRY.cell 2 (by simp)
              have f0 := XRY.free 0
              have f1 := XRY.free 1
              have f2 := XRY.free 2
              have rl := XRY.lt
              simp only [List.getElem_cons_zero, List.getElem_cons_succ] at r0 r1 r2
              have HFin := (show Hid _ from cpy_out HP.out HV0.out hVR.out XR hY XRY O0 O1 O2)
              clear own0 own1 own2 O0 O1 O2 XRY
              refine rd1 12 (fun K hK => ?_)
              go_simp
              refine hK.out _ _ (HS.out _ hY) (fun hHeld' => ?_)
              clear hK K hHeld
              have hHeld := hHeld'
              clear hHeld'
              try simp only [Act.put, List.setIfInBounds_toArray, List.set_cons_zero, List.set_cons_succ]
              refine rd1 13 (fun K hK => ?_)
              go_simp
              refine hK.out _ _ (HSX.out _ _ _ _ hY) (fun hHeld' => ?_)
              clear hK K hHeld
              have hHeld := hHeld'
              clear hHeld'
              try simp only [Act.put, List.setIfInBounds_toArray, List.set_cons_zero, List.set_cons_succ]
              obtain ⟨bs', hG, hF, hB, s0, s1, s2, hcap⟩ := HFin.out
              refine wpAnyH_done (by kernel_rfl) ?_ _
              refine NoPanic.normal ?_
              go_wp2
              exact bodyPost_ret (v := .agg #[.slice p0 g.places.length q0, .slice p1 g.roads.length q1, .slice p2 g.bans.length q2]) (by simp [results, Try.results23, go_sem, s0, s1, s2]) rfl ⟨_, bs', rfl, hG, hF, hB, _, _, _, _, rfl, hcap⟩
  · go_simp
    refine hK.out _ _ (HS.out _ (bel_alloc hY _)) (fun hHeld' => ?_)
    clear hK K hHeld
    have hHeld := hHeld'
    clear hHeld'
    try simp only [Act.put, List.setIfInBounds_toArray, List.set_cons_zero, List.set_cons_succ]
    have own1 := World.ownsRow_made (e := 72) (size := 6) (base := V.heap.size) Y0 #[] 0 hY.out.size (by unfold maxLen; omega) (by rfl)
    have hY := bel_alloc hY (.cells #[] 72)
    generalize Y0.alloc (.cells #[] 72) = Y1 at *
    refine rd2 0 8 (fun K hK => ?_) (fun K hK => ?_)
    · go_simp
      refine hK.out _ _ (HS.out _ (bel_alloc hY _)) (fun hHeld' => ?_)
      clear hK K hHeld
      have hHeld := hHeld'
      clear hHeld'
      try simp only [Act.put, List.setIfInBounds_toArray, List.set_cons_zero, List.set_cons_succ]
      have own0 := World.ownsRow_made (e := 83) (size := 3) (base := V.heap.size) Y1 #[] 0 hY.out.size (by unfold maxLen; omega) (by rfl)
      have own1 := own1.alloc (.cells #[] 83)
      have hY := bel_alloc hY (.cells #[] 83)
      generalize Y1.alloc (.cells #[] 83) = Y2 at *
      refine rd2 3 8 (fun K hK => ?_) (fun K hK => ?_)
      · refine step_flat sptF (by decide) _ rfl _ _ _ rfl V.heap.size 83 i0 (.agg #[.int .i64 0, .int .i64 0, .int .i64 0]) 24 Try.underlying30 hi0 hz0 hs0 hy0 rfl _ (by rfl) own0 _ _ _ g.places _ (by rfl) (u0.bel spotE hY) H0.out (by omega) (by decide) hY.out.size ?_
        intro vv Y3 O0 hg
        obtain ⟨p0, q0, rfl⟩ := own_shape O0
        have own1 := own_keep2 own1 own0 (by decide) hg
        have hY := bel_grow hY hg (fun k e => (own0.lt k e).1)
        clear hg
        refine hK.out _ _ (HS.out _ hY) (fun hHeld' => ?_)
        clear hK K hHeld
        have hHeld := hHeld'
        clear hHeld'
        try simp only [Act.put, List.setIfInBounds_toArray, List.set_cons_zero, List.set_cons_succ]
        refine rd2 7 8 (fun K hK => ?_) (fun K hK => ?_)
        · refine step_flat rodF (by decide) _ rfl _ _ _ rfl V.heap.size 72 i1 (.agg #[.int .i64 0, .int .i64 0, .int .i64 0, .int .i64 0, .int .i64 0, .string ⟨#[]⟩]) 56 Try.underlying31 hi1 hz1 hs1 hy1 rfl _ (by rfl) own1 _ _ _ g.roads _ (by rfl) (u1.bel roadE hY) H1.out (by omega) (by decide) hY.out.size ?_
          intro vv Y4 O1 hg
          obtain ⟨p1, q1, rfl⟩ := own_shape O1
          have O0 := own_keep2 O0 own1 (by decide) hg
          have hY := bel_grow hY hg (fun k e => (own1.lt k e).1)
          clear hg
          refine hK.out _ _ (HS.out _ hY) (fun hHeld' => ?_)
          clear hK K hHeld
          have hHeld := hHeld'
          clear hHeld'
          try simp only [Act.put, List.setIfInBounds_toArray, List.set_cons_zero, List.set_cons_succ]
          refine rd1 8 (fun K hK => ?_)
          · go_simp
            refine hK.out _ _ (HS.out _ (bel_alloc hY _)) (fun hHeld' => ?_)
            clear hK K hHeld
            have hHeld := hHeld'
            clear hHeld'
            try simp only [Act.put, List.setIfInBounds_toArray, List.set_cons_zero, List.set_cons_succ]
            have own2 := World.ownsRow_made (e := 75) (size := 2) (base := V.heap.size) Y4 #[] 0 hY.out.size (by unfold maxLen; omega) (by rfl)
            have O0 := O0.alloc (.cells #[] 75)
            have O1 := O1.alloc (.cells #[] 75)
            have hY := bel_alloc hY (.cells #[] 75)
            generalize Y4.alloc (.cells #[] 75) = Y5 at *
            refine rd1 11 (fun K hK => ?_)
            · refine step_flat banG (by decide) _ rfl _ _ _ rfl V.heap.size 75 i2 (.agg #[.int .i64 0, .int .i64 0]) 16 Try.underlying32 hi2 hz2 hs2 hy2 rfl _ (by rfl) own2 _ _ _ g.bans _ (by rfl) (u2.bel banE hY) H2.out (by omega) (by decide) hY.out.size ?_
              intro vv Y6 O2 hg
              obtain ⟨p2, q2, rfl⟩ := own_shape O2
              have O0 := own_keep2 O0 own2 (by decide) hg
              have O1 := own_keep2 O1 own2 (by decide) hg
              have hY := bel_grow hY hg (fun k e => (own2.lt k e).1)
              clear hg
              refine hK.out _ _ (HS.out _ hY) (fun hHeld' => ?_)
              clear hK K hHeld
              have hHeld := hHeld'
              clear hHeld'
              try simp only [Act.put, List.setIfInBounds_toArray, List.set_cons_zero, List.set_cons_succ]
              have XRY := XR.bel hY
              have r0 := XRY.cell 0 (by simp)
              have r1 := XRY.cell 1 (by simp)
              have r2 := XRY.cell 2 (by simp)
              have f0 := XRY.free 0
              have f1 := XRY.free 1
              have f2 := XRY.free 2
              have rl := XRY.lt
              simp only [List.getElem_cons_zero, List.getElem_cons_succ] at r0 r1 r2
              have HFin := (show Hid _ from cpy_out HP.out HV0.out hVR.out XR hY XRY O0 O1 O2)
              clear own0 own1 own2 O0 O1 O2 XRY
              refine rd1 12 (fun K hK => ?_)
              go_simp
              refine hK.out _ _ (HS.out _ hY) (fun hHeld' => ?_)
              clear hK K hHeld
              have hHeld := hHeld'
              clear hHeld'
              try simp only [Act.put, List.setIfInBounds_toArray, List.set_cons_zero, List.set_cons_succ]
              refine rd1 13 (fun K hK => ?_)
              go_simp
              refine hK.out _ _ (HSX.out _ _ _ _ hY) (fun hHeld' => ?_)
              clear hK K hHeld
              have hHeld := hHeld'
              clear hHeld'
              try simp only [Act.put, List.setIfInBounds_toArray, List.set_cons_zero, List.set_cons_succ]
              obtain ⟨bs', hG, hF, hB, s0, s1, s2, hcap⟩ := HFin.out
              refine wpAnyH_done (by kernel_rfl) ?_ _
              refine NoPanic.normal ?_
              go_wp2
              exact bodyPost_ret (v := .agg #[.slice p0 g.places.length q0, .slice p1 g.roads.length q1, .slice p2 g.bans.length q2]) (by simp [results, Try.results23, go_sem, s0, s1, s2]) rfl ⟨_, bs', rfl, hG, hF, hB, _, _, _, _, rfl, hcap⟩
        · go_simp
          refine hK.out _ _ (HS.out _ (bel_alloc hY _)) (fun hHeld' => ?_)
          clear hK K hHeld
          have hHeld := hHeld'
          clear hHeld'
          try simp only [Act.put, List.setIfInBounds_toArray, List.set_cons_zero, List.set_cons_succ]
          have own2 := World.ownsRow_made (e := 75) (size := 2) (base := V.heap.size) Y3 #[] 0 hY.out.size (by unfold maxLen; omega) (by rfl)
          have own1 := own1.alloc (.cells #[] 75)
          have O0 := O0.alloc (.cells #[] 75)
          have hY := bel_alloc hY (.cells #[] 75)
          generalize Y3.alloc (.cells #[] 75) = Y4 at *
          refine rd1 7 (fun K hK => ?_)
          · refine step_flat rodF (by decide) _ rfl _ _ _ rfl V.heap.size 72 i1 (.agg #[.int .i64 0, .int .i64 0, .int .i64 0, .int .i64 0, .int .i64 0, .string ⟨#[]⟩]) 56 Try.underlying31 hi1 hz1 hs1 hy1 rfl _ (by rfl) own1 _ _ _ g.roads _ (by rfl) (u1.bel roadE hY) H1.out (by omega) (by decide) hY.out.size ?_
            intro vv Y5 O1 hg
            obtain ⟨p1, q1, rfl⟩ := own_shape O1
            have own2 := own_keep2 own2 own1 (by decide) hg
            have O0 := own_keep2 O0 own1 (by decide) hg
            have hY := bel_grow hY hg (fun k e => (own1.lt k e).1)
            clear hg
            refine hK.out _ _ (HS.out _ hY) (fun hHeld' => ?_)
            clear hK K hHeld
            have hHeld := hHeld'
            clear hHeld'
            try simp only [Act.put, List.setIfInBounds_toArray, List.set_cons_zero, List.set_cons_succ]
            refine rd1 11 (fun K hK => ?_)
            · refine step_flat banG (by decide) _ rfl _ _ _ rfl V.heap.size 75 i2 (.agg #[.int .i64 0, .int .i64 0]) 16 Try.underlying32 hi2 hz2 hs2 hy2 rfl _ (by rfl) own2 _ _ _ g.bans _ (by rfl) (u2.bel banE hY) H2.out (by omega) (by decide) hY.out.size ?_
              intro vv Y6 O2 hg
              obtain ⟨p2, q2, rfl⟩ := own_shape O2
              have O0 := own_keep2 O0 own2 (by decide) hg
              have O1 := own_keep2 O1 own2 (by decide) hg
              have hY := bel_grow hY hg (fun k e => (own2.lt k e).1)
              clear hg
              refine hK.out _ _ (HS.out _ hY) (fun hHeld' => ?_)
              clear hK K hHeld
              have hHeld := hHeld'
              clear hHeld'
              try simp only [Act.put, List.setIfInBounds_toArray, List.set_cons_zero, List.set_cons_succ]
              have XRY := XR.bel hY
              have r0 := XRY.cell 0 (by simp)
              have r1 := XRY.cell 1 (by simp)
              have r2 := XRY.cell 2 (by simp)
              have f0 := XRY.free 0
              have f1 := XRY.free 1
              have f2 := XRY.free 2
              have rl := XRY.lt
              simp only [List.getElem_cons_zero, List.getElem_cons_succ] at r0 r1 r2
              have HFin := (show Hid _ from cpy_out HP.out HV0.out hVR.out XR hY XRY O0 O1 O2)
              clear own0 own1 own2 O0 O1 O2 XRY
              refine rd1 12 (fun K hK => ?_)
              go_simp
              refine hK.out _ _ (HS.out _ hY) (fun hHeld' => ?_)
              clear hK K hHeld
              have hHeld := hHeld'
              clear hHeld'
              try simp only [Act.put, List.setIfInBounds_toArray, List.set_cons_zero, List.set_cons_succ]
              refine rd1 13 (fun K hK => ?_)
              go_simp
              refine hK.out _ _ (HSX.out _ _ _ _ hY) (fun hHeld' => ?_)
              clear hK K hHeld
              have hHeld := hHeld'
              clear hHeld'
              try simp only [Act.put, List.setIfInBounds_toArray, List.set_cons_zero, List.set_cons_succ]
              obtain ⟨bs', hG, hF, hB, s0, s1, s2, hcap⟩ := HFin.out
              refine wpAnyH_done (by kernel_rfl) ?_ _
              refine NoPanic.normal ?_
              go_wp2
              exact bodyPost_ret (v := .agg #[.slice p0 g.places.length q0, .slice p1 g.roads.length q1, .slice p2 g.bans.length q2]) (by simp [results, Try.results23, go_sem, s0, s1, s2]) rfl ⟨_, bs', rfl, hG, hF, hB, _, _, _, _, rfl, hcap⟩
      · go_simp
        refine hK.out _ _ (HS.out _ (bel_alloc hY _)) (fun hHeld' => ?_)
        clear hK K hHeld
        have hHeld := hHeld'
        clear hHeld'
        try simp only [Act.put, List.setIfInBounds_toArray, List.set_cons_zero, List.set_cons_succ]
        have own2 := World.ownsRow_made (e := 75) (size := 2) (base := V.heap.size) Y2 #[] 0 hY.out.size (by unfold maxLen; omega) (by rfl)
        have own0 := own0.alloc (.cells #[] 75)
        have own1 := own1.alloc (.cells #[] 75)
        have hY := bel_alloc hY (.cells #[] 75)
        generalize Y2.alloc (.cells #[] 75) = Y3 at *
        refine rd1 3 (fun K hK => ?_)
        · refine step_flat sptF (by decide) _ rfl _ _ _ rfl V.heap.size 83 i0 (.agg #[.int .i64 0, .int .i64 0, .int .i64 0]) 24 Try.underlying30 hi0 hz0 hs0 hy0 rfl _ (by rfl) own0 _ _ _ g.places _ (by rfl) (u0.bel spotE hY) H0.out (by omega) (by decide) hY.out.size ?_
          intro vv Y4 O0 hg
          obtain ⟨p0, q0, rfl⟩ := own_shape O0
          have own1 := own_keep2 own1 own0 (by decide) hg
          have own2 := own_keep2 own2 own0 (by decide) hg
          have hY := bel_grow hY hg (fun k e => (own0.lt k e).1)
          clear hg
          refine hK.out _ _ (HS.out _ hY) (fun hHeld' => ?_)
          clear hK K hHeld
          have hHeld := hHeld'
          clear hHeld'
          try simp only [Act.put, List.setIfInBounds_toArray, List.set_cons_zero, List.set_cons_succ]
          refine rd1 7 (fun K hK => ?_)
          · refine step_flat rodF (by decide) _ rfl _ _ _ rfl V.heap.size 72 i1 (.agg #[.int .i64 0, .int .i64 0, .int .i64 0, .int .i64 0, .int .i64 0, .string ⟨#[]⟩]) 56 Try.underlying31 hi1 hz1 hs1 hy1 rfl _ (by rfl) own1 _ _ _ g.roads _ (by rfl) (u1.bel roadE hY) H1.out (by omega) (by decide) hY.out.size ?_
            intro vv Y5 O1 hg
            obtain ⟨p1, q1, rfl⟩ := own_shape O1
            have own2 := own_keep2 own2 own1 (by decide) hg
            have O0 := own_keep2 O0 own1 (by decide) hg
            have hY := bel_grow hY hg (fun k e => (own1.lt k e).1)
            clear hg
            refine hK.out _ _ (HS.out _ hY) (fun hHeld' => ?_)
            clear hK K hHeld
            have hHeld := hHeld'
            clear hHeld'
            try simp only [Act.put, List.setIfInBounds_toArray, List.set_cons_zero, List.set_cons_succ]
            refine rd1 11 (fun K hK => ?_)
            · refine step_flat banG (by decide) _ rfl _ _ _ rfl V.heap.size 75 i2 (.agg #[.int .i64 0, .int .i64 0]) 16 Try.underlying32 hi2 hz2 hs2 hy2 rfl _ (by rfl) own2 _ _ _ g.bans _ (by rfl) (u2.bel banE hY) H2.out (by omega) (by decide) hY.out.size ?_
              intro vv Y6 O2 hg
              obtain ⟨p2, q2, rfl⟩ := own_shape O2
              have O0 := own_keep2 O0 own2 (by decide) hg
              have O1 := own_keep2 O1 own2 (by decide) hg
              have hY := bel_grow hY hg (fun k e => (own2.lt k e).1)
              clear hg
              refine hK.out _ _ (HS.out _ hY) (fun hHeld' => ?_)
              clear hK K hHeld
              have hHeld := hHeld'
              clear hHeld'
              try simp only [Act.put, List.setIfInBounds_toArray, List.set_cons_zero, List.set_cons_succ]
              have XRY := XR.bel hY
              have r0 := XRY.cell 0 (by simp)
              have r1 := XRY.cell 1 (by simp)
              have r2 := XRY.cell 2 (by simp)
              have f0 := XRY.free 0
              have f1 := XRY.free 1
              have f2 := XRY.free 2
              have rl := XRY.lt
              simp only [List.getElem_cons_zero, List.getElem_cons_succ] at r0 r1 r2
              have HFin := (show Hid _ from cpy_out HP.out HV0.out hVR.out XR hY XRY O0 O1 O2)
              clear own0 own1 own2 O0 O1 O2 XRY
              refine rd1 12 (fun K hK => ?_)
              go_simp
              refine hK.out _ _ (HS.out _ hY) (fun hHeld' => ?_)
              clear hK K hHeld
              have hHeld := hHeld'
              clear hHeld'
              try simp only [Act.put, List.setIfInBounds_toArray, List.set_cons_zero, List.set_cons_succ]
              refine rd1 13 (fun K hK => ?_)
              go_simp
              refine hK.out _ _ (HSX.out _ _ _ _ hY) (fun hHeld' => ?_)
              clear hK K hHeld
              have hHeld := hHeld'
              clear hHeld'
              try simp only [Act.put, List.setIfInBounds_toArray, List.set_cons_zero, List.set_cons_succ]
              obtain ⟨bs', hG, hF, hB, s0, s1, s2, hcap⟩ := HFin.out
              refine wpAnyH_done (by kernel_rfl) ?_ _
              refine NoPanic.normal ?_
              go_wp2
              exact bodyPost_ret (v := .agg #[.slice p0 g.places.length q0, .slice p1 g.roads.length q1, .slice p2 g.bans.length q2]) (by simp [results, Try.results23, go_sem, s0, s1, s2]) rfl ⟨_, bs', rfl, hG, hF, hB, _, _, _, _, rfl, hcap⟩
    · go_simp
      refine hK.out _ _ (HS.out _ (bel_alloc hY _)) (fun hHeld' => ?_)
      clear hK K hHeld
      have hHeld := hHeld'
      clear hHeld'
      try simp only [Act.put, List.setIfInBounds_toArray, List.set_cons_zero, List.set_cons_succ]
      have own2 := World.ownsRow_made (e := 75) (size := 2) (base := V.heap.size) Y1 #[] 0 hY.out.size (by unfold maxLen; omega) (by rfl)
      have own1 := own1.alloc (.cells #[] 75)
      have hY := bel_alloc hY (.cells #[] 75)
      generalize Y1.alloc (.cells #[] 75) = Y2 at *
      refine rd1 0 (fun K hK => ?_)
      · go_simp
        refine hK.out _ _ (HS.out _ (bel_alloc hY _)) (fun hHeld' => ?_)
        clear hK K hHeld
        have hHeld := hHeld'
        clear hHeld'
        try simp only [Act.put, List.setIfInBounds_toArray, List.set_cons_zero, List.set_cons_succ]
        have own0 := World.ownsRow_made (e := 83) (size := 3) (base := V.heap.size) Y2 #[] 0 hY.out.size (by unfold maxLen; omega) (by rfl)
        have own1 := own1.alloc (.cells #[] 83)
        have own2 := own2.alloc (.cells #[] 83)
        have hY := bel_alloc hY (.cells #[] 83)
        generalize Y2.alloc (.cells #[] 83) = Y3 at *
        refine rd1 3 (fun K hK => ?_)
        · refine step_flat sptF (by decide) _ rfl _ _ _ rfl V.heap.size 83 i0 (.agg #[.int .i64 0, .int .i64 0, .int .i64 0]) 24 Try.underlying30 hi0 hz0 hs0 hy0 rfl _ (by rfl) own0 _ _ _ g.places _ (by rfl) (u0.bel spotE hY) H0.out (by omega) (by decide) hY.out.size ?_
          intro vv Y4 O0 hg
          obtain ⟨p0, q0, rfl⟩ := own_shape O0
          have own1 := own_keep2 own1 own0 (by decide) hg
          have own2 := own_keep2 own2 own0 (by decide) hg
          have hY := bel_grow hY hg (fun k e => (own0.lt k e).1)
          clear hg
          refine hK.out _ _ (HS.out _ hY) (fun hHeld' => ?_)
          clear hK K hHeld
          have hHeld := hHeld'
          clear hHeld'
          try simp only [Act.put, List.setIfInBounds_toArray, List.set_cons_zero, List.set_cons_succ]
          refine rd1 7 (fun K hK => ?_)
          · refine step_flat rodF (by decide) _ rfl _ _ _ rfl V.heap.size 72 i1 (.agg #[.int .i64 0, .int .i64 0, .int .i64 0, .int .i64 0, .int .i64 0, .string ⟨#[]⟩]) 56 Try.underlying31 hi1 hz1 hs1 hy1 rfl _ (by rfl) own1 _ _ _ g.roads _ (by rfl) (u1.bel roadE hY) H1.out (by omega) (by decide) hY.out.size ?_
            intro vv Y5 O1 hg
            obtain ⟨p1, q1, rfl⟩ := own_shape O1
            have own2 := own_keep2 own2 own1 (by decide) hg
            have O0 := own_keep2 O0 own1 (by decide) hg
            have hY := bel_grow hY hg (fun k e => (own1.lt k e).1)
            clear hg
            refine hK.out _ _ (HS.out _ hY) (fun hHeld' => ?_)
            clear hK K hHeld
            have hHeld := hHeld'
            clear hHeld'
            try simp only [Act.put, List.setIfInBounds_toArray, List.set_cons_zero, List.set_cons_succ]
            refine rd1 11 (fun K hK => ?_)
            · refine step_flat banG (by decide) _ rfl _ _ _ rfl V.heap.size 75 i2 (.agg #[.int .i64 0, .int .i64 0]) 16 Try.underlying32 hi2 hz2 hs2 hy2 rfl _ (by rfl) own2 _ _ _ g.bans _ (by rfl) (u2.bel banE hY) H2.out (by omega) (by decide) hY.out.size ?_
              intro vv Y6 O2 hg
              obtain ⟨p2, q2, rfl⟩ := own_shape O2
              have O0 := own_keep2 O0 own2 (by decide) hg
              have O1 := own_keep2 O1 own2 (by decide) hg
              have hY := bel_grow hY hg (fun k e => (own2.lt k e).1)
              clear hg
              refine hK.out _ _ (HS.out _ hY) (fun hHeld' => ?_)
              clear hK K hHeld
              have hHeld := hHeld'
              clear hHeld'
              try simp only [Act.put, List.setIfInBounds_toArray, List.set_cons_zero, List.set_cons_succ]
              have XRY := XR.bel hY
              have r0 := XRY.cell 0 (by simp)
              have r1 := XRY.cell 1 (by simp)
              have r2 := XRY.cell 2 (by simp)
              have f0 := XRY.free 0
              have f1 := XRY.free 1
              have f2 := XRY.free 2
              have rl := XRY.lt
              simp only [List.getElem_cons_zero, List.getElem_cons_succ] at r0 r1 r2
              have HFin := (show Hid _ from cpy_out HP.out HV0.out hVR.out XR hY XRY O0 O1 O2)
              clear own0 own1 own2 O0 O1 O2 XRY
              refine rd1 12 (fun K hK => ?_)
              go_simp
              refine hK.out _ _ (HS.out _ hY) (fun hHeld' => ?_)
              clear hK K hHeld
              have hHeld := hHeld'
              clear hHeld'
              try simp only [Act.put, List.setIfInBounds_toArray, List.set_cons_zero, List.set_cons_succ]
              refine rd1 13 (fun K hK => ?_)
              go_simp
              refine hK.out _ _ (HSX.out _ _ _ _ hY) (fun hHeld' => ?_)
              clear hK K hHeld
              have hHeld := hHeld'
              clear hHeld'
              try simp only [Act.put, List.setIfInBounds_toArray, List.set_cons_zero, List.set_cons_succ]
              obtain ⟨bs', hG, hF, hB, s0, s1, s2, hcap⟩ := HFin.out
              refine wpAnyH_done (by kernel_rfl) ?_ _
              refine NoPanic.normal ?_
              go_wp2
              exact bodyPost_ret (v := .agg #[.slice p0 g.places.length q0, .slice p1 g.roads.length q1, .slice p2 g.bans.length q2]) (by simp [results, Try.results23, go_sem, s0, s1, s2]) rfl ⟨_, bs', rfl, hG, hF, hB, _, _, _, _, rfl, hcap⟩
  · go_simp
    refine hK.out _ _ (HS.out _ (bel_alloc hY _)) (fun hHeld' => ?_)
    clear hK K hHeld
    have hHeld := hHeld'
    clear hHeld'
    try simp only [Act.put, List.setIfInBounds_toArray, List.set_cons_zero, List.set_cons_succ]
    have own2 := World.ownsRow_made (e := 75) (size := 2) (base := V.heap.size) Y0 #[] 0 hY.out.size (by unfold maxLen; omega) (by rfl)
    have hY := bel_alloc hY (.cells #[] 75)
    generalize Y0.alloc (.cells #[] 75) = Y1 at *
    refine rd2 0 4 (fun K hK => ?_) (fun K hK => ?_)
    · go_simp
      refine hK.out _ _ (HS.out _ (bel_alloc hY _)) (fun hHeld' => ?_)
      clear hK K hHeld
      have hHeld := hHeld'
      clear hHeld'
      try simp only [Act.put, List.setIfInBounds_toArray, List.set_cons_zero, List.set_cons_succ]
      have own0 := World.ownsRow_made (e := 83) (size := 3) (base := V.heap.size) Y1 #[] 0 hY.out.size (by unfold maxLen; omega) (by rfl)
      have own2 := own2.alloc (.cells #[] 83)
      have hY := bel_alloc hY (.cells #[] 83)
      generalize Y1.alloc (.cells #[] 83) = Y2 at *
      refine rd2 3 4 (fun K hK => ?_) (fun K hK => ?_)
      · refine step_flat sptF (by decide) _ rfl _ _ _ rfl V.heap.size 83 i0 (.agg #[.int .i64 0, .int .i64 0, .int .i64 0]) 24 Try.underlying30 hi0 hz0 hs0 hy0 rfl _ (by rfl) own0 _ _ _ g.places _ (by rfl) (u0.bel spotE hY) H0.out (by omega) (by decide) hY.out.size ?_
        intro vv Y3 O0 hg
        obtain ⟨p0, q0, rfl⟩ := own_shape O0
        have own2 := own_keep2 own2 own0 (by decide) hg
        have hY := bel_grow hY hg (fun k e => (own0.lt k e).1)
        clear hg
        refine hK.out _ _ (HS.out _ hY) (fun hHeld' => ?_)
        clear hK K hHeld
        have hHeld := hHeld'
        clear hHeld'
        try simp only [Act.put, List.setIfInBounds_toArray, List.set_cons_zero, List.set_cons_succ]
        refine rd1 4 (fun K hK => ?_)
        · go_simp
          refine hK.out _ _ (HS.out _ (bel_alloc hY _)) (fun hHeld' => ?_)
          clear hK K hHeld
          have hHeld := hHeld'
          clear hHeld'
          try simp only [Act.put, List.setIfInBounds_toArray, List.set_cons_zero, List.set_cons_succ]
          have own1 := World.ownsRow_made (e := 72) (size := 6) (base := V.heap.size) Y3 #[] 0 hY.out.size (by unfold maxLen; omega) (by rfl)
          have own2 := own2.alloc (.cells #[] 72)
          have O0 := O0.alloc (.cells #[] 72)
          have hY := bel_alloc hY (.cells #[] 72)
          generalize Y3.alloc (.cells #[] 72) = Y4 at *
          refine rd1 7 (fun K hK => ?_)
          · refine step_flat rodF (by decide) _ rfl _ _ _ rfl V.heap.size 72 i1 (.agg #[.int .i64 0, .int .i64 0, .int .i64 0, .int .i64 0, .int .i64 0, .string ⟨#[]⟩]) 56 Try.underlying31 hi1 hz1 hs1 hy1 rfl _ (by rfl) own1 _ _ _ g.roads _ (by rfl) (u1.bel roadE hY) H1.out (by omega) (by decide) hY.out.size ?_
            intro vv Y5 O1 hg
            obtain ⟨p1, q1, rfl⟩ := own_shape O1
            have own2 := own_keep2 own2 own1 (by decide) hg
            have O0 := own_keep2 O0 own1 (by decide) hg
            have hY := bel_grow hY hg (fun k e => (own1.lt k e).1)
            clear hg
            refine hK.out _ _ (HS.out _ hY) (fun hHeld' => ?_)
            clear hK K hHeld
            have hHeld := hHeld'
            clear hHeld'
            try simp only [Act.put, List.setIfInBounds_toArray, List.set_cons_zero, List.set_cons_succ]
            refine rd1 11 (fun K hK => ?_)
            · refine step_flat banG (by decide) _ rfl _ _ _ rfl V.heap.size 75 i2 (.agg #[.int .i64 0, .int .i64 0]) 16 Try.underlying32 hi2 hz2 hs2 hy2 rfl _ (by rfl) own2 _ _ _ g.bans _ (by rfl) (u2.bel banE hY) H2.out (by omega) (by decide) hY.out.size ?_
              intro vv Y6 O2 hg
              obtain ⟨p2, q2, rfl⟩ := own_shape O2
              have O0 := own_keep2 O0 own2 (by decide) hg
              have O1 := own_keep2 O1 own2 (by decide) hg
              have hY := bel_grow hY hg (fun k e => (own2.lt k e).1)
              clear hg
              refine hK.out _ _ (HS.out _ hY) (fun hHeld' => ?_)
              clear hK K hHeld
              have hHeld := hHeld'
              clear hHeld'
              try simp only [Act.put, List.setIfInBounds_toArray, List.set_cons_zero, List.set_cons_succ]
              have XRY := XR.bel hY
              have r0 := XRY.cell 0 (by simp)
              have r1 := XRY.cell 1 (by simp)
              have r2 := XRY.cell 2 (by simp)
              have f0 := XRY.free 0
              have f1 := XRY.free 1
              have f2 := XRY.free 2
              have rl := XRY.lt
              simp only [List.getElem_cons_zero, List.getElem_cons_succ] at r0 r1 r2
              have HFin := (show Hid _ from cpy_out HP.out HV0.out hVR.out XR hY XRY O0 O1 O2)
              clear own0 own1 own2 O0 O1 O2 XRY
              refine rd1 12 (fun K hK => ?_)
              go_simp
              refine hK.out _ _ (HS.out _ hY) (fun hHeld' => ?_)
              clear hK K hHeld
              have hHeld := hHeld'
              clear hHeld'
              try simp only [Act.put, List.setIfInBounds_toArray, List.set_cons_zero, List.set_cons_succ]
              refine rd1 13 (fun K hK => ?_)
              go_simp
              refine hK.out _ _ (HSX.out _ _ _ _ hY) (fun hHeld' => ?_)
              clear hK K hHeld
              have hHeld := hHeld'
              clear hHeld'
              try simp only [Act.put, List.setIfInBounds_toArray, List.set_cons_zero, List.set_cons_succ]
              obtain ⟨bs', hG, hF, hB, s0, s1, s2, hcap⟩ := HFin.out
              refine wpAnyH_done (by kernel_rfl) ?_ _
              refine NoPanic.normal ?_
              go_wp2
              exact bodyPost_ret (v := .agg #[.slice p0 g.places.length q0, .slice p1 g.roads.length q1, .slice p2 g.bans.length q2]) (by simp [results, Try.results23, go_sem, s0, s1, s2]) rfl ⟨_, bs', rfl, hG, hF, hB, _, _, _, _, rfl, hcap⟩
      · go_simp
        refine hK.out _ _ (HS.out _ (bel_alloc hY _)) (fun hHeld' => ?_)
        clear hK K hHeld
        have hHeld := hHeld'
        clear hHeld'
        try simp only [Act.put, List.setIfInBounds_toArray, List.set_cons_zero, List.set_cons_succ]
        have own1 := World.ownsRow_made (e := 72) (size := 6) (base := V.heap.size) Y2 #[] 0 hY.out.size (by unfold maxLen; omega) (by rfl)
        have own0 := own0.alloc (.cells #[] 72)
        have own2 := own2.alloc (.cells #[] 72)
        have hY := bel_alloc hY (.cells #[] 72)
        generalize Y2.alloc (.cells #[] 72) = Y3 at *
        refine rd1 3 (fun K hK => ?_)
        · refine step_flat sptF (by decide) _ rfl _ _ _ rfl V.heap.size 83 i0 (.agg #[.int .i64 0, .int .i64 0, .int .i64 0]) 24 Try.underlying30 hi0 hz0 hs0 hy0 rfl _ (by rfl) own0 _ _ _ g.places _ (by rfl) (u0.bel spotE hY) H0.out (by omega) (by decide) hY.out.size ?_
          intro vv Y4 O0 hg
          obtain ⟨p0, q0, rfl⟩ := own_shape O0
          have own1 := own_keep2 own1 own0 (by decide) hg
          have own2 := own_keep2 own2 own0 (by decide) hg
          have hY := bel_grow hY hg (fun k e => (own0.lt k e).1)
          clear hg
          refine hK.out _ _ (HS.out _ hY) (fun hHeld' => ?_)
          clear hK K hHeld
          have hHeld := hHeld'
          clear hHeld'
          try simp only [Act.put, List.setIfInBounds_toArray, List.set_cons_zero, List.set_cons_succ]
          refine rd1 7 (fun K hK => ?_)
          · refine step_flat rodF (by decide) _ rfl _ _ _ rfl V.heap.size 72 i1 (.agg #[.int .i64 0, .int .i64 0, .int .i64 0, .int .i64 0, .int .i64 0, .string ⟨#[]⟩]) 56 Try.underlying31 hi1 hz1 hs1 hy1 rfl _ (by rfl) own1 _ _ _ g.roads _ (by rfl) (u1.bel roadE hY) H1.out (by omega) (by decide) hY.out.size ?_
            intro vv Y5 O1 hg
            obtain ⟨p1, q1, rfl⟩ := own_shape O1
            have own2 := own_keep2 own2 own1 (by decide) hg
            have O0 := own_keep2 O0 own1 (by decide) hg
            have hY := bel_grow hY hg (fun k e => (own1.lt k e).1)
            clear hg
            refine hK.out _ _ (HS.out _ hY) (fun hHeld' => ?_)
            clear hK K hHeld
            have hHeld := hHeld'
            clear hHeld'
            try simp only [Act.put, List.setIfInBounds_toArray, List.set_cons_zero, List.set_cons_succ]
            refine rd1 11 (fun K hK => ?_)
            · refine step_flat banG (by decide) _ rfl _ _ _ rfl V.heap.size 75 i2 (.agg #[.int .i64 0, .int .i64 0]) 16 Try.underlying32 hi2 hz2 hs2 hy2 rfl _ (by rfl) own2 _ _ _ g.bans _ (by rfl) (u2.bel banE hY) H2.out (by omega) (by decide) hY.out.size ?_
              intro vv Y6 O2 hg
              obtain ⟨p2, q2, rfl⟩ := own_shape O2
              have O0 := own_keep2 O0 own2 (by decide) hg
              have O1 := own_keep2 O1 own2 (by decide) hg
              have hY := bel_grow hY hg (fun k e => (own2.lt k e).1)
              clear hg
              refine hK.out _ _ (HS.out _ hY) (fun hHeld' => ?_)
              clear hK K hHeld
              have hHeld := hHeld'
              clear hHeld'
              try simp only [Act.put, List.setIfInBounds_toArray, List.set_cons_zero, List.set_cons_succ]
              have XRY := XR.bel hY
              have r0 := XRY.cell 0 (by simp)
              have r1 := XRY.cell 1 (by simp)
              have r2 := XRY.cell 2 (by simp)
              have f0 := XRY.free 0
              have f1 := XRY.free 1
              have f2 := XRY.free 2
              have rl := XRY.lt
              simp only [List.getElem_cons_zero, List.getElem_cons_succ] at r0 r1 r2
              have HFin := (show Hid _ from cpy_out HP.out HV0.out hVR.out XR hY XRY O0 O1 O2)
              clear own0 own1 own2 O0 O1 O2 XRY
              refine rd1 12 (fun K hK => ?_)
              go_simp
              refine hK.out _ _ (HS.out _ hY) (fun hHeld' => ?_)
              clear hK K hHeld
              have hHeld := hHeld'
              clear hHeld'
              try simp only [Act.put, List.setIfInBounds_toArray, List.set_cons_zero, List.set_cons_succ]
              refine rd1 13 (fun K hK => ?_)
              go_simp
              refine hK.out _ _ (HSX.out _ _ _ _ hY) (fun hHeld' => ?_)
              clear hK K hHeld
              have hHeld := hHeld'
              clear hHeld'
              try simp only [Act.put, List.setIfInBounds_toArray, List.set_cons_zero, List.set_cons_succ]
              obtain ⟨bs', hG, hF, hB, s0, s1, s2, hcap⟩ := HFin.out
              refine wpAnyH_done (by kernel_rfl) ?_ _
              refine NoPanic.normal ?_
              go_wp2
              exact bodyPost_ret (v := .agg #[.slice p0 g.places.length q0, .slice p1 g.roads.length q1, .slice p2 g.bans.length q2]) (by simp [results, Try.results23, go_sem, s0, s1, s2]) rfl ⟨_, bs', rfl, hG, hF, hB, _, _, _, _, rfl, hcap⟩
    · go_simp
      refine hK.out _ _ (HS.out _ (bel_alloc hY _)) (fun hHeld' => ?_)
      clear hK K hHeld
      have hHeld := hHeld'
      clear hHeld'
      try simp only [Act.put, List.setIfInBounds_toArray, List.set_cons_zero, List.set_cons_succ]
      have own1 := World.ownsRow_made (e := 72) (size := 6) (base := V.heap.size) Y1 #[] 0 hY.out.size (by unfold maxLen; omega) (by rfl)
      have own2 := own2.alloc (.cells #[] 72)
      have hY := bel_alloc hY (.cells #[] 72)
      generalize Y1.alloc (.cells #[] 72) = Y2 at *
      refine rd1 0 (fun K hK => ?_)
      · go_simp
        refine hK.out _ _ (HS.out _ (bel_alloc hY _)) (fun hHeld' => ?_)
        clear hK K hHeld
        have hHeld := hHeld'
        clear hHeld'
        try simp only [Act.put, List.setIfInBounds_toArray, List.set_cons_zero, List.set_cons_succ]
        have own0 := World.ownsRow_made (e := 83) (size := 3) (base := V.heap.size) Y2 #[] 0 hY.out.size (by unfold maxLen; omega) (by rfl)
        have own1 := own1.alloc (.cells #[] 83)
        have own2 := own2.alloc (.cells #[] 83)
        have hY := bel_alloc hY (.cells #[] 83)
        generalize Y2.alloc (.cells #[] 83) = Y3 at *
        refine rd1 3 (fun K hK => ?_)
        · refine step_flat sptF (by decide) _ rfl _ _ _ rfl V.heap.size 83 i0 (.agg #[.int .i64 0, .int .i64 0, .int .i64 0]) 24 Try.underlying30 hi0 hz0 hs0 hy0 rfl _ (by rfl) own0 _ _ _ g.places _ (by rfl) (u0.bel spotE hY) H0.out (by omega) (by decide) hY.out.size ?_
          intro vv Y4 O0 hg
          obtain ⟨p0, q0, rfl⟩ := own_shape O0
          have own1 := own_keep2 own1 own0 (by decide) hg
          have own2 := own_keep2 own2 own0 (by decide) hg
          have hY := bel_grow hY hg (fun k e => (own0.lt k e).1)
          clear hg
          refine hK.out _ _ (HS.out _ hY) (fun hHeld' => ?_)
          clear hK K hHeld
          have hHeld := hHeld'
          clear hHeld'
          try simp only [Act.put, List.setIfInBounds_toArray, List.set_cons_zero, List.set_cons_succ]
          refine rd1 7 (fun K hK => ?_)
          · refine step_flat rodF (by decide) _ rfl _ _ _ rfl V.heap.size 72 i1 (.agg #[.int .i64 0, .int .i64 0, .int .i64 0, .int .i64 0, .int .i64 0, .string ⟨#[]⟩]) 56 Try.underlying31 hi1 hz1 hs1 hy1 rfl _ (by rfl) own1 _ _ _ g.roads _ (by rfl) (u1.bel roadE hY) H1.out (by omega) (by decide) hY.out.size ?_
            intro vv Y5 O1 hg
            obtain ⟨p1, q1, rfl⟩ := own_shape O1
            have own2 := own_keep2 own2 own1 (by decide) hg
            have O0 := own_keep2 O0 own1 (by decide) hg
            have hY := bel_grow hY hg (fun k e => (own1.lt k e).1)
            clear hg
            refine hK.out _ _ (HS.out _ hY) (fun hHeld' => ?_)
            clear hK K hHeld
            have hHeld := hHeld'
            clear hHeld'
            try simp only [Act.put, List.setIfInBounds_toArray, List.set_cons_zero, List.set_cons_succ]
            refine rd1 11 (fun K hK => ?_)
            · refine step_flat banG (by decide) _ rfl _ _ _ rfl V.heap.size 75 i2 (.agg #[.int .i64 0, .int .i64 0]) 16 Try.underlying32 hi2 hz2 hs2 hy2 rfl _ (by rfl) own2 _ _ _ g.bans _ (by rfl) (u2.bel banE hY) H2.out (by omega) (by decide) hY.out.size ?_
              intro vv Y6 O2 hg
              obtain ⟨p2, q2, rfl⟩ := own_shape O2
              have O0 := own_keep2 O0 own2 (by decide) hg
              have O1 := own_keep2 O1 own2 (by decide) hg
              have hY := bel_grow hY hg (fun k e => (own2.lt k e).1)
              clear hg
              refine hK.out _ _ (HS.out _ hY) (fun hHeld' => ?_)
              clear hK K hHeld
              have hHeld := hHeld'
              clear hHeld'
              try simp only [Act.put, List.setIfInBounds_toArray, List.set_cons_zero, List.set_cons_succ]
              have XRY := XR.bel hY
              have r0 := XRY.cell 0 (by simp)
              have r1 := XRY.cell 1 (by simp)
              have r2 := XRY.cell 2 (by simp)
              have f0 := XRY.free 0
              have f1 := XRY.free 1
              have f2 := XRY.free 2
              have rl := XRY.lt
              simp only [List.getElem_cons_zero, List.getElem_cons_succ] at r0 r1 r2
              have HFin := (show Hid _ from cpy_out HP.out HV0.out hVR.out XR hY XRY O0 O1 O2)
              clear own0 own1 own2 O0 O1 O2 XRY
              refine rd1 12 (fun K hK => ?_)
              go_simp
              refine hK.out _ _ (HS.out _ hY) (fun hHeld' => ?_)
              clear hK K hHeld
              have hHeld := hHeld'
              clear hHeld'
              try simp only [Act.put, List.setIfInBounds_toArray, List.set_cons_zero, List.set_cons_succ]
              refine rd1 13 (fun K hK => ?_)
              go_simp
              refine hK.out _ _ (HSX.out _ _ _ _ hY) (fun hHeld' => ?_)
              clear hK K hHeld
              have hHeld := hHeld'
              clear hHeld'
              try simp only [Act.put, List.setIfInBounds_toArray, List.set_cons_zero, List.set_cons_succ]
              obtain ⟨bs', hG, hF, hB, s0, s1, s2, hcap⟩ := HFin.out
              refine wpAnyH_done (by kernel_rfl) ?_ _
              refine NoPanic.normal ?_
              go_wp2
              exact bodyPost_ret (v := .agg #[.slice p0 g.places.length q0, .slice p1 g.roads.length q1, .slice p2 g.bans.length q2]) (by simp [results, Try.results23, go_sem, s0, s1, s2]) rfl ⟨_, bs', rfl, hG, hF, hB, _, _, _, _, rfl, hcap⟩
theorem l9Copy_any (a0 : Option Addr) (n0 c0 : Nat) (a1 : Option Addr) (n1 c1 : Nat) (a2 : Option Addr) (n2 c2 : Nat) (g : GraphD) (b0 b1 b2 : List Nat) (w : World) (t0 : SpotL w a0 g.places b0) (t1 : RoadL w a1 g.roads b1) (t2 : BanL w a2 g.bans b2) (e0 : g.places.length = n0) (e1 : g.roads.length = n1) (e2 : g.bans.length = n2) (m0 : n0 ≤ 1048576) (m1 : n1 ≤ 1048576) (m2 : n2 ≤ 1048576) :
    Calls Try.prog 23 #[gphV a0 n0 c0 a1 n1 c1 a2 n2 c2] w fun e w' => ∃ v' bs', e = .returned v' ∧ GphV w' v' g bs' ∧ Fresh w w' bs' ∧ Bel w w' :=
  (l9CopyC_any a0 n0 c0 a1 n1 c1 a2 n2 c2 g b0 b1 b2 w t0 t1 t2 e0 e1 e2 m0 m1 m2).mono fun _ _ ⟨v', bs', h1, h2, h3, h4, _⟩ => ⟨v', bs', h1, h2, h3, h4⟩
end Go.Proofs.Ytiagdabikbjbiaa
