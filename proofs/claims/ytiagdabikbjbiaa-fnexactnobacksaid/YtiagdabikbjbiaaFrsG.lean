/-
  Lists of places, of roads and of bans, copied by append: contracts.
-/
import Derived.Test.YtiagdabikbjbiaaXC
import Derived.Test.YtiagdabikbjbiaaXB
import Derived.Test.YtiagdabikbjbiaaChartO
namespace Go.Proofs.Ytiagdabikbjbiaa
open Go.RowKit Go.Maps

def sptP (d : SpotD) : Prop := In64 d.id ∧ In64 d.x ∧ In64 d.y
def sptCs (d : SpotD) : List Value := [.int .i64 d.id, .int .i64 d.x, .int .i64 d.y]
theorem sptF : Flat 3 SpotE sptP sptCs :=
  ⟨fun _ => rfl, fun _ u hu => by simp only [sptCs, List.mem_cons, List.not_mem_nil, or_false] at hu; rcases hu with rfl | rfl | rfl <;> rfl,
    fun ⟨_, h0, h1, h2, c0, c1, c2⟩ => ⟨⟨h0, h1, h2⟩, fun j hj => by match j, hj with | 0, _ => exact c0 | 1, _ => exact c1 | 2, _ => exact c2⟩,
    fun hp hc => ⟨rfl, hp.1, hp.2.1, hp.2.2, hc 0 (by simp [sptCs]), hc 1 (by simp [sptCs]), hc 2 (by simp [sptCs])⟩⟩
def rodP (d : RoadD) : Prop := In64 d.fr ∧ In64 d.to ∧ In64 d.way ∧ In64 d.time ∧ In64 d.len ∧ d.name.size ≤ maxLen
def rodCs (d : RoadD) : List Value := [.int .i64 d.fr, .int .i64 d.to, .int .i64 d.way, .int .i64 d.time, .int .i64 d.len, .string d.name]
theorem rodF : Flat 6 RoadE rodP rodCs :=
  ⟨fun _ => rfl, fun _ u hu => by simp only [rodCs, List.mem_cons, List.not_mem_nil, or_false] at hu; rcases hu with rfl | rfl | rfl | rfl | rfl | rfl <;> rfl,
    fun ⟨_, h0, h1, h2, h3, h4, h5, c0, c1, c2, c3, c4, c5⟩ => ⟨⟨h0, h1, h2, h3, h4, h5⟩, fun j hj => by match j, hj with | 0, _ => exact c0 | 1, _ => exact c1 | 2, _ => exact c2 | 3, _ => exact c3 | 4, _ => exact c4 | 5, _ => exact c5⟩,
    fun hp hc => ⟨rfl, hp.1, hp.2.1, hp.2.2.1, hp.2.2.2.1, hp.2.2.2.2.1, hp.2.2.2.2.2, hc 0 (by simp [rodCs]), hc 1 (by simp [rodCs]), hc 2 (by simp [rodCs]), hc 3 (by simp [rodCs]), hc 4 (by simp [rodCs]), hc 5 (by simp [rodCs])⟩⟩
def banW (d : BanD) : Prop := In64 d.fr ∧ In64 d.to
def banU (d : BanD) : List Value := [.int .i64 d.fr, .int .i64 d.to]
theorem banG : Flat 2 BanE banW banU :=
  ⟨fun _ => rfl, fun _ u hu => by simp only [banU, List.mem_cons, List.not_mem_nil, or_false] at hu; rcases hu with rfl | rfl <;> rfl,
    fun ⟨_, h0, h1, c0, c1⟩ => ⟨⟨h0, h1⟩, fun j hj => by match j, hj with | 0, _ => exact c0 | 1, _ => exact c1⟩,
    fun hp hc => ⟨rfl, hp.1, hp.2, hc 0 (by simp [banU]), hc 1 (by simp [banU])⟩⟩

theorem infospt : (Try.prog.info? 83).map (fun i => (i.zero, i.size, i.bytes)) = some (some (.agg #[.int .i64 0, .int .i64 0, .int .i64 0]), 3, 24) := by kernel_rfl
set_option maxHeartbeats 1000000 in
theorem freshSpot_to (a : Option Addr) (n c : Nat) (l : List SpotD) (bs : List Nat) (W0 w : World) (h0W : Bel W0 w) (hT : SpotL w a l bs) (hn : l.length = n) (hm : n ≤ 1048576) :
    Calls Try.prog 57 #[.slice a n c] w fun e w' => ∃ a' c' bs', e = .returned (.slice a' n c') ∧ SpotL w' a' l bs' ∧ Fresh w w' bs' ∧ Bel W0 w' ∧ Bel w w' := by
  obtain ⟨i0, hi0, hz0, hz1, hz2⟩ := info_parts infospt
  have hown0 : w.ownsRow w.heap.size 83 3 (.slice none 0 0) 0 [] := World.ownsRow_nil _ _ _ _
  go_enter Try.func57, Try.ntmps57
  go_wp2_with (first
    | (at_builtin; refine wpList_append_flat sptF (by decide) rfl _ _ 30 rfl w.heap.size 83 i0 (.agg #[.int .i64 0, .int .i64 0, .int .i64 0]) 24 Try.underlying30 hi0 hz0 hz1 hz2 rfl _ rfl hown0 a n c l bs rfl hT hn hm (by decide) (Nat.le_refl _) ?_)
    | go_in)
  intro a' c' bs' w3 HS HM hgrow
  have hB : Bel w w3 := bel_grow (Bel.refl _) hgrow (fun j e => by cases e)
  clear hgrow
  go_wp2
  go_ret
  exact ⟨_, _, bs', rfl, HS, HM.fresh (Nat.le_refl _), bel_step h0W hB, hB⟩

theorem inforod : (Try.prog.info? 72).map (fun i => (i.zero, i.size, i.bytes)) = some (some (.agg #[.int .i64 0, .int .i64 0, .int .i64 0, .int .i64 0, .int .i64 0, .string ⟨#[]⟩]), 6, 56) := by kernel_rfl
set_option maxHeartbeats 1000000 in
theorem freshRoad_to (a : Option Addr) (n c : Nat) (l : List RoadD) (bs : List Nat) (W0 w : World) (h0W : Bel W0 w) (hT : RoadL w a l bs) (hn : l.length = n) (hm : n ≤ 1048576) :
    Calls Try.prog 58 #[.slice a n c] w fun e w' => ∃ a' c' bs', e = .returned (.slice a' n c') ∧ RoadL w' a' l bs' ∧ Fresh w w' bs' ∧ Bel W0 w' ∧ Bel w w' := by
  obtain ⟨i0, hi0, hz0, hz1, hz2⟩ := info_parts inforod
  have hown0 : w.ownsRow w.heap.size 72 6 (.slice none 0 0) 0 [] := World.ownsRow_nil _ _ _ _
  go_enter Try.func58, Try.ntmps58
  go_wp2_with (first
    | (at_builtin; refine wpList_append_flat rodF (by decide) rfl _ _ 31 rfl w.heap.size 72 i0 (.agg #[.int .i64 0, .int .i64 0, .int .i64 0, .int .i64 0, .int .i64 0, .string ⟨#[]⟩]) 56 Try.underlying31 hi0 hz0 hz1 hz2 rfl _ rfl hown0 a n c l bs rfl hT hn hm (by decide) (Nat.le_refl _) ?_)
    | go_in)
  intro a' c' bs' w3 HS HM hgrow
  have hB : Bel w w3 := bel_grow (Bel.refl _) hgrow (fun j e => by cases e)
  clear hgrow
  go_wp2
  go_ret
  exact ⟨_, _, bs', rfl, HS, HM.fresh (Nat.le_refl _), bel_step h0W hB, hB⟩

theorem infoban : (Try.prog.info? 75).map (fun i => (i.zero, i.size, i.bytes)) = some (some (.agg #[.int .i64 0, .int .i64 0]), 2, 16) := by kernel_rfl
end Go.Proofs.Ytiagdabikbjbiaa
