/-
  Arrivals: a row of them that grows; append of any number, also of none, onto it.
-/
import Derived.Test.YtdlgehnoiaoneaaGreatDoorGJ
import Derived.Test.YtdlgehnoiaoneaaGreatDoorGF
import Derived.Test.YtdlgehnoiaoneaaGreatDoorWinM
namespace Go.Proofs.YtdlgehnoiaoneaaGreatDoor
open Go.RowKit Go.Maps

def arP (d : BanD) : Prop := In64 d.fr ∧ In64 d.to
def arCs (d : BanD) : List Value := [.int .i64 d.fr, .int .i64 d.to]
theorem arF : Flat 2 BanE arP arCs :=
 ⟨fun _ => rfl, fun _ u hu => by simp [arCs] at hu; rcases hu with rfl | rfl <;> rfl,
  fun ⟨_, h1, h2, h3, h4⟩ => ⟨⟨h1, h2⟩, fun j hj => by match j, hj with | 0, _ => exact h3 | 1, _ => exact h4⟩,
  fun ⟨h1, h2⟩ hc => ⟨rfl, h1, h2, hc 0 (by simp [arCs]), hc 1 (by simp [arCs])⟩⟩
theorem infoAr : (Tryz.prog.info? 49).map (fun i => (i.zero, i.size, i.bytes)) = some (some (.agg #[.int .i64 0, .int .i64 0]), 2, 16) := by kernel_rfl
theorem recs_flatA {α : Type} (q : Nat) (cs : α → List Value) : ∀ l : List α, recs (csL q cs l) l.length = l.flatMap cs
 | [] => rfl
 | x :: r => by
  rw [List.flatMap_cons, ← recs_flatA q cs r]
  unfold recs
  have h : (fun i => csL q cs (x :: r) (i + 1)) = csL q cs r := by funext i; simp [csL]
  rw [List.length_cons, List.range_succ_eq_map, List.flatMap_cons, List.flatMap_map]
  show csL q cs (x :: r) 0 ++ (List.range r.length).flatMap (fun i => csL q cs (x :: r) (i + 1)) = _
  rw [h]
  rfl
/-- A row of arrivals of the call's own. -/
def OwnA (base : Nat) (w : World) (v : Value) (n : Nat) (l : List BanD) : Prop := w.ownsRow base 49 2 v n (l.flatMap arCs)
theorem flat_len (l : List BanD) : (l.flatMap arCs).length = l.length * 2 := by
 induction l with
 | nil => rfl
 | cons x r ih => rw [List.flatMap_cons, List.length_append, ih, List.length_cons]; show 2 + _ = _; omega
/-- The numbers with their times. -/
def arD (K : Nat → Int) (l : List Nat) : List BanD := l.map fun (i : Nat) => (⟨((i : Nat) : Int), K i⟩ : BanD)
theorem arD_len (K : Nat → Int) (l : List Nat) : (arD K l).length = l.length := List.length_map ..
theorem arD_app (K : Nat → Int) (a b : List Nat) : arD K (a ++ b) = arD K a ++ arD K b := List.map_append ..
theorem arD_ok {K : Nat → Int} {n : Nat} {l : List Nat} (hl : ∀ i ∈ l, i < n) (hn : n ≤ 8000) (hK : ∀ i, i < n → In64 (K i)) : ∀ d ∈ arD K l, arP d := by
 intro d hd
 obtain ⟨i, hi, rfl⟩ := List.mem_map.1 hd
 have := hl i hi
 exact ⟨⟨by show _ ≤ ((i : Nat) : Int); omega, by show ((i : Nat) : Int) ≤ _; omega⟩, hK i this⟩
theorem OwnA.out {base : Nat} {w : World} {v : Value} {l : List BanD} (h : OwnA base w v l.length l) (hP : ∀ d ∈ l, arP d) : ∃ a c bs, v = .slice a l.length c ∧ BanL w a l bs ∧ Mine base w bs :=
 arF.out (T := 49) (by rw [recs_flatA]; exact h) fun i hi => hP _ (List.getElem_mem hi)

/-- What is appended: m elements of q cells, perhaps none. -/
def Src (q : Nat) (w : World) (ad : Option Addr) (m : Nat) (news : List Value) : Prop := news.length = m * q ∧ (m = 0 ∨ ∃ a0, ad = some a0 ∧ ∀ j u, news[j]? = some u → w.cell? (a0.add j) = some u)
theorem step_appS {P : Program} (w : World) {ops : Array Oper} {o : Oper} {a : Act} {K : Act → World → Prop} {Q : Exit → Act → World → Prop} {E : Prop} (hgd : o.guard = none) (s x : Operand) (t : TypeId)
  (ho : o.op = .call { callee := .builtin .append, args := #[s, x], argTypes := #[t, t] })
  (base : Nat) (e : TypeId) (i : TypeInfo) (z : Value) (size bytes : Nat) (ht : P.underlying t = some (.slice e)) (hi : P.info? e = some i) (hz : i.zero = some z)
  (hsize : i.size = size) (hby : i.bytes = bytes) (hzs : z.cells.size = size) (hsz : 0 < size)
  (v : Value) (n : Nat) (xs : List Value) (hs : a.eval s = v) (hown : w.ownsRow base e size v n xs)
  (ad : Option Addr) (m c : Nat) (news : List Value) (hx : a.eval x = .slice ad m c) (hsrc : Src size w ad m news) (h1 : ∀ u ∈ news, u.oneCell' = true)
  (h63 : n + m ≤ maxLen) (hbytes : (n + m) * bytes ≤ 140737488355328) (hbase : base ≤ w.heap.size)
  (h : ∀ v' w', w'.ownsRow base e size v' (n + m) (xs ++ news) → w.grownBy w' v.ownBlock → K (a.put o.dst v') w') :
  if Region.wanted o (yielded ops a.tmps) = true then Oper.wp P o a w K Q else E := by
 obtain ⟨hl, h0 | ⟨a0, rfl, hn⟩⟩ := hsrc
 ·subst h0
  obtain rfl : news = [] := List.length_eq_zero_iff.1 (by rw [hl]; omega)
  exact step_app0 w hgd s x t ho base e i size ht hi v n xs hs hown ad c hx (h v w (by rw [Nat.add_zero, List.append_nil]; exact hown) (World.grownBy.refl _ _))
 ·exact step_app w hgd s x t ho base e i z size bytes ht hi hz hsize hby hzs hsz v n xs hs hown a0 m c news hx hl hn h1 h63 hbytes hbase h
/-- A piece of an own row, appended. -/
theorem own_src {w w' : World} {base g n cap p m : Nat} {l : List BanD} (h : OwnA base w (.slice (some ⟨g, 0, none⟩) n cap) n l) (hl : l.length = n) (hb : ∀ j u, w.cell? ⟨g, j, none⟩ = some u → w'.cell? ⟨g, j, none⟩ = some u) (hp : p + m ≤ n) (ad : Option Addr) (hm : m = 0 ∨ ad = some ⟨g, p * 2, none⟩) :
  Src 2 w' ad m (((l.drop p).take m).flatMap arCs) := by
 have hlen : ((l.drop p).take m).length = m := by rw [List.length_take, List.length_drop, hl]; omega
 refine ⟨by rw [flat_len, hlen], hm.imp id fun e => ⟨_, e, fun j u hj => ?_⟩⟩
 have hj1 : j < m * 2 := by have := (List.getElem?_eq_some_iff.1 hj).1; rwa [flat_len, hlen] at this
 rw [addr_add]
 have hh : (l.flatMap arCs)[p * 2 + j]? = some u := by
  have e1 : l = l.take p ++ ((l.drop p).take m ++ (l.drop p).drop m) := by rw [List.take_append_drop, List.take_append_drop]
  have hlp : (l.take p).length = p := by rw [List.length_take, hl]; omega
  have h2 : (l.flatMap arCs) = (l.take p).flatMap arCs ++ (((l.drop p).take m).flatMap arCs ++ ((l.drop p).drop m).flatMap arCs) := by rw [← List.flatMap_append, ← List.flatMap_append, ← e1]
  rw [h2, List.getElem?_append_right (by rw [flat_len, hlp]; omega), flat_len, hlp, Nat.add_sub_cancel_left, List.getElem?_append_left (by rw [flat_len, hlen]; exact hj1)]
  exact hj
 have := World.ownsRow.cells h (g := g) rfl (p * 2 + j) u hh
 rw [addr_add, Nat.zero_add] at this
 exact hb _ _ this
/-- One element alone. -/
theorem one_src {w : World} {B : Nat} {x y : Int} (h : w.heap[B]? = some (.cells #[.int .i64 x, .int .i64 y] 49)) : Src 2 w (some ⟨B, 0, none⟩) 1 [.int .i64 x, .int .i64 y] :=
 ⟨rfl, .inr ⟨_, rfl, World.news_of_block (cs := #[.int .i64 x, .int .i64 y]) h⟩⟩
theorem arCs_one (l : List BanD) : ∀ u ∈ l.flatMap arCs, u.oneCell' = true := fun u hu => by
 obtain ⟨d, _, h⟩ := List.mem_flatMap.1 hu
 simp [arCs] at h
 rcases h with rfl | rfl <;> rfl
theorem own_someA {base : Nat} {w : World} {v : Value} {n : Nat} {l : List BanD} (h : OwnA base w v n l) (hn : 0 < n) : ∃ g cap, v = .slice (some ⟨g, 0, none⟩) n cap ∧ n ≤ cap ∧ cap ≤ maxLen := by
 rcases h.2 with ⟨_, h0⟩ | ⟨g, cap, cur, e1, _, _, e4, e5, _⟩
 ·omega
 ·exact ⟨g, cap, e1, e4, e5⟩
end Go.Proofs.YtdlgehnoiaoneaaGreatDoor
