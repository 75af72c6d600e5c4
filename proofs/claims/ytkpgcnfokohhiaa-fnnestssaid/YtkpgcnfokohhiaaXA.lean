/-
  Inside of all rings together, and of each alone: plain mathematics.
  Points held against each other with == and !=.
  Whether a row is closed, in the law: contract.
-/
import Derived.Test.YtkpgcnfokohhiaaNstM
import Derived.Test.YtkpgcnfokohhiaaMem
import Derived.Deep.QuietTactic
namespace Go.Proofs.Ytkpgcnfokohhiaa
open Go.RowKit

theorem onR_succ {rs : List RingD} {px py : Int} {k : Nat} (hk : k < rs.length) : onR (rs.take (k + 1)) px py = (onR (rs.take k) px py || onR [rs[k]] px py) := by
  unfold onR
  rw [List.take_succ_eq_append_getElem hk, List.any_append]
theorem insR_one (r : RingD) (px py : Int) : insR [r] px py = if onR [r] px py then 0 else if cntT r.row px py (r.row.length - 1) % 2 = 1 then 1 else -1 := by
  unfold insR
  have e : cntR [r] px py 1 = cntT r.row px py (r.row.length - 1) := by simp [cntR]
  rw [show [r].length = 1 from rfl, e]
/-- What the law's number says: even or odd, while no ring has the point on it. -/
def OddP (rs : List RingD) (px py : Int) (k : Nat) (o : Int) : Prop := (o = 1 ∨ o = -1) ∧ (onR (rs.take k) px py = false → o = if cntR rs px py k % 2 = 1 then 1 else -1)
theorem OddP.zero (rs : List RingD) (px py : Int) : OddP rs px py 0 (-1) := ⟨.inr rfl, fun _ => by simp [cntR]⟩
theorem OddP.one {rs : List RingD} {px py o : Int} {k : Nat} (h : OddP rs px py k o) (hk : k < rs.length) (e : insR [rs[k]] px py = 1) : OddP rs px py (k + 1) (-o) := by
  refine ⟨by rcases h.1 with h | h <;> omega, fun hon => ?_⟩
  rw [onR_succ hk, Bool.or_eq_false_iff] at hon
  rw [insR_one, hon.2] at e
  simp only [Bool.false_eq_true, if_false] at e
  have hc : cntT rs[k].row px py (rs[k].row.length - 1) % 2 = 1 := by
    by_cases hc : cntT rs[k].row px py (rs[k].row.length - 1) % 2 = 1
    · exact hc
    · rw [if_neg hc] at e; cases e
  rw [cntR_at hk, h.2 hon.1]
  by_cases h1 : cntR rs px py k % 2 = 1
  · rw [if_pos h1, if_neg (by omega)]
  · rw [if_neg h1, if_pos (by omega)]; rfl
theorem OddP.not {rs : List RingD} {px py o : Int} {k : Nat} (h : OddP rs px py k o) (hk : k < rs.length) (e : ¬ insR [rs[k]] px py = 1) : OddP rs px py (k + 1) o := by
  refine ⟨h.1, fun hon => ?_⟩
  rw [onR_succ hk, Bool.or_eq_false_iff] at hon
  rw [insR_one, hon.2] at e
  simp only [Bool.false_eq_true, if_false] at e
  have hc : ¬ cntT rs[k].row px py (rs[k].row.length - 1) % 2 = 1 := fun hc => by rw [if_pos hc] at e; exact e rfl
  rw [cntR_at hk, h.2 hon.1]
  by_cases h1 : cntR rs px py k % 2 = 1
  · rw [if_pos h1, if_pos (by omega)]
  · rw [if_neg h1, if_neg (by omega)]
theorem insR_zero (r : RingD) (px py : Int) : (insR [r] px py == 0) = onR [r] px py := by
  rw [insR_one]
  cases onR [r] px py
  · simp only [Bool.false_eq_true, if_false]; split <;> rfl
  · rfl
theorem insR_bd (rs : List RingD) (px py : Int) : insR rs px py = 0 ∨ insR rs px py = 1 ∨ insR rs px py = -1 := by
  unfold insR
  split
  · exact .inl rfl
  · split
    · exact .inr (.inl rfl)
    · exact .inr (.inr rfl)
theorem insOf_bad {rs : List RingD} {px py : Int} (h : rgsB rs = false ∨ pok px py = false) : insOf rs px py = -1 := by
  unfold insOf
  rcases h with h | h <;> simp [h]
theorem insOf_ok {rs : List RingD} {px py : Int} (h : rgsB rs = true) (hp : pok px py = true) : insOf rs px py = insR rs px py := by
  unfold insOf
  simp [h, hp]
theorem odd_end {rs : List RingD} {px py o : Int} (h : OddP rs px py rs.length o) (hon : onR rs px py = false) : insR rs px py = o := by
  have := h.2 (by rw [List.take_length]; exact hon)
  unfold insR
  rw [hon, this]
  rfl
theorem odd_on {rs : List RingD} {px py : Int} (hon : onR rs px py = true) : insR rs px py = 0 := by unfold insR; rw [hon]; rfl
theorem ins_lit : insOf [⟨[⟨0, 0⟩, ⟨4, 0⟩, ⟨0, 4⟩, ⟨0, 0⟩], false⟩] 1 1 = 1 := by decide
/-- A row is closed. -/
def clB (l : List PtD) : Bool := match l with
  | [] => true
  | p :: r => decide (p.x = ((p :: r).getLast (by simp)).x) && decide (p.y = ((p :: r).getLast (by simp)).y)
end Go.Proofs.Ytkpgcnfokohhiaa

namespace Go.Proofs.Ytkpgcnfokohhiaa
open Go.RowKit

theorem ptEq (x y x' y' : Int) (w : World) : Sem.run Try.prog (binOp .eql 26 (.agg #[.int .i64 x, .int .i64 y]) (.agg #[.int .i64 x', .int .i64 y'])) w = .ok (.bool (decide (x = x') && decide (y = y'))) w := by
  by_cases h1 : x = x' <;> by_cases h2 : y = y' <;> go_simp
theorem ptNe (x y x' y' : Int) (w : World) : Sem.run Try.prog (binOp .neq 26 (.agg #[.int .i64 x, .int .i64 y]) (.agg #[.int .i64 x', .int .i64 y'])) w = .ok (.bool (!(decide (x = x') && decide (y = y')))) w := by
  by_cases h1 : x = x' <;> by_cases h2 : y = y' <;> go_simp
theorem pt_same {x y x' y' : Int} (h : x = x' ∧ y = y') : (decide (x = x') && decide (y = y')) = true := by simp [h.1, h.2]
theorem pt_diff {x y x' y' : Int} (h : ¬ (x = x' ∧ y = y')) : (decide (x = x') && decide (y = y')) = false := by
  rw [Bool.and_eq_false_iff, decide_eq_false_iff_not, decide_eq_false_iff_not]
  rcases Classical.em (x = x') with h1 | h1
  · exact .inr fun h2 => h ⟨h1, h2⟩
  · exact .inl h1
end Go.Proofs.Ytkpgcnfokohhiaa

namespace Go.Proofs.Ytkpgcnfokohhiaa
open Go.RowKit

set_option maxRecDepth 100000 in
set_option maxHeartbeats 2000000 in
theorem lawClosed_any (a : Option Addr) (n c : Nat) (l : List PtD) (bs : List Nat) (w : World) (hT : PtL w a l bs) (hn : l.length = n) (hm : n ≤ 1048576) :
    Calls Try.prog 10 #[.slice a n c] w fun e w' => e = .returned (.bool (clB l)) ∧ Bel w w' := by
  rcases l with _ | ⟨p, r⟩
  · obtain rfl : 0 = n := hn
    have g0 : Bel w w := Bel.refl _
    go_enter Try.func10, Try.ntmps10
    go_wp2
    refine wp_region_noPanic ?_
    refine wp_region_held_drew (S := fun w' => Bel w w') (by kernel_rfl) (Bel.drew g0) (fun hHeld => ?_)
    refine wpAnyH_take (i := 0) (oi := { dst := some 3, op := Go.Op.move (Go.Operand.tmp 0), type := 30, pos := "laws.go:389", after := #[], guard := none }) (v := ?vab0) rfl (by kernel_rfl) (by kernel_rfl) (by kernel_rfl) (fun _ _ _ h => h) (Or.inl ⟨by rfl, ?hab0⟩) hHeld ?rab0
    case hab0 => (intro w hSw; (try dsimp only at hSw); go_simp; try with_reducible rfl)
    try simp only [Act.put, List.setIfInBounds_toArray, List.set_cons_zero, List.set_cons_succ]
    refine wpAnyH_take (i := 1) (oi := { dst := some 4, op := Go.Op.call { callee := Go.Callee.builtin Go.Builtin.len, args := #[Go.Operand.tmp 3], argTypes := #[30] }, type := 3, pos := "laws.go:389", after := #[{ on := 0, ground := Go.Ground.data }], guard := none }) (v := ?vab1) rfl (by kernel_rfl) (by kernel_rfl) (by kernel_rfl) (fun _ _ _ h => h) (Or.inl ⟨by rfl, ?hab1⟩) hHeld ?rab1
    case hab1 => (intro w hSw; (try dsimp only at hSw); go_simp; try with_reducible rfl)
    try simp only [Act.put, List.setIfInBounds_toArray, List.set_cons_zero, List.set_cons_succ]
    refine wpAnyH_take (i := 2) (oi := { dst := some 5, op := Go.Op.binOp Go.BinOp.eql 3 (Go.Operand.tmp 4) (Go.Operand.const (Go.Value.int Go.IntKind.i64 0)) 3, type := 4, pos := "laws.go:389", after := #[{ on := 1, ground := Go.Ground.data }], guard := none }) (v := ?vab2) rfl (by kernel_rfl) (by kernel_rfl) (by kernel_rfl) (fun _ _ _ h => h) (Or.inl ⟨by rfl, ?hab2⟩) hHeld ?rab2
    case hab2 => (intro w hSw; (try dsimp only at hSw); go_simp; try with_reducible rfl)
    try simp only [Act.put, List.setIfInBounds_toArray, List.set_cons_zero, List.set_cons_succ]
    refine wpAnyH_take (i := 3) (oi := { dst := some 6, op := Go.Op.move (Go.Operand.tmp 5), type := 4, pos := "laws.go:389", after := #[{ on := 2, ground := Go.Ground.data }], guard := none }) (v := ?vab3) rfl (by kernel_rfl) (by kernel_rfl) (by kernel_rfl) (fun _ _ _ h => h) (Or.inl ⟨by rfl, ?hab3⟩) hHeld ?rab3
    case hab3 => (intro w hSw; (try dsimp only at hSw); go_simp; try with_reducible rfl)
    try simp only [Act.put, List.setIfInBounds_toArray, List.set_cons_zero, List.set_cons_succ]
    refine wpAnyH_take (i := 4) (oi := { dst := some 7, op := Go.Op.move (Go.Operand.tmp 0), type := 30, pos := "laws.go:389", after := #[{ on := 3, ground := Go.Ground.guard }], guard := some (3, false) }) (v := undef) rfl (by kernel_rfl) (by kernel_rfl) (by kernel_rfl) (fun _ _ _ h => h) (Or.inr ⟨by rfl, rfl⟩) hHeld ?_
    try simp only [Act.put, List.setIfInBounds_toArray, List.set_cons_zero, List.set_cons_succ]
    refine wpAnyH_take (i := 5) (oi := { dst := some 8, op := Go.Op.indexAddr 30 (Go.Operand.tmp 7) (Go.Operand.const (Go.Value.int Go.IntKind.i64 0)), type := 0, pos := "laws.go:389", after := #[{ on := 4, ground := Go.Ground.data }, { on := 3, ground := Go.Ground.guard }], guard := some (3, false) }) (v := undef) rfl (by kernel_rfl) (by kernel_rfl) (by kernel_rfl) (fun _ _ _ h => h) (Or.inr ⟨by rfl, rfl⟩) hHeld ?_
    try simp only [Act.put, List.setIfInBounds_toArray, List.set_cons_zero, List.set_cons_succ]
    refine wpAnyH_take (i := 6) (oi := { dst := some 9, op := Go.Op.load 26 (Go.Operand.tmp 8), type := 26, pos := "laws.go:389", after := #[{ on := 5, ground := Go.Ground.data }, { on := 3, ground := Go.Ground.guard }], guard := some (3, false) }) (v := undef) rfl (by kernel_rfl) (by kernel_rfl) (by kernel_rfl) (fun _ _ _ h => h) (Or.inr ⟨by rfl, rfl⟩) hHeld ?_
    try simp only [Act.put, List.setIfInBounds_toArray, List.set_cons_zero, List.set_cons_succ]
    refine wpAnyH_take (i := 7) (oi := { dst := some 10, op := Go.Op.move (Go.Operand.tmp 0), type := 30, pos := "laws.go:389", after := #[{ on := 3, ground := Go.Ground.guard }], guard := some (3, false) }) (v := undef) rfl (by kernel_rfl) (by kernel_rfl) (by kernel_rfl) (fun _ _ _ h => h) (Or.inr ⟨by rfl, rfl⟩) hHeld ?_
    try simp only [Act.put, List.setIfInBounds_toArray, List.set_cons_zero, List.set_cons_succ]
    refine wpAnyH_take (i := 8) (oi := { dst := some 11, op := Go.Op.move (Go.Operand.tmp 0), type := 30, pos := "laws.go:389", after := #[{ on := 3, ground := Go.Ground.guard }], guard := some (3, false) }) (v := undef) rfl (by kernel_rfl) (by kernel_rfl) (by kernel_rfl) (fun _ _ _ h => h) (Or.inr ⟨by rfl, rfl⟩) hHeld ?_
    try simp only [Act.put, List.setIfInBounds_toArray, List.set_cons_zero, List.set_cons_succ]
    refine wpAnyH_take (i := 9) (oi := { dst := some 12, op := Go.Op.call { callee := Go.Callee.builtin Go.Builtin.len, args := #[Go.Operand.tmp 11], argTypes := #[30] }, type := 3, pos := "laws.go:389", after := #[{ on := 8, ground := Go.Ground.data }, { on := 3, ground := Go.Ground.guard }], guard := some (3, false) }) (v := undef) rfl (by kernel_rfl) (by kernel_rfl) (by kernel_rfl) (fun _ _ _ h => h) (Or.inr ⟨by rfl, rfl⟩) hHeld ?_
    try simp only [Act.put, List.setIfInBounds_toArray, List.set_cons_zero, List.set_cons_succ]
    refine wpAnyH_take (i := 10) (oi := { dst := some 13, op := Go.Op.binOp Go.BinOp.sub 3 (Go.Operand.tmp 12) (Go.Operand.const (Go.Value.int Go.IntKind.i64 1)) 3, type := 3, pos := "laws.go:389", after := #[{ on := 9, ground := Go.Ground.data }, { on := 3, ground := Go.Ground.guard }], guard := some (3, false) }) (v := undef) rfl (by kernel_rfl) (by kernel_rfl) (by kernel_rfl) (fun _ _ _ h => h) (Or.inr ⟨by rfl, rfl⟩) hHeld ?_
    try simp only [Act.put, List.setIfInBounds_toArray, List.set_cons_zero, List.set_cons_succ]
    refine wpAnyH_take (i := 11) (oi := { dst := some 14, op := Go.Op.indexAddr 30 (Go.Operand.tmp 10) (Go.Operand.tmp 13), type := 0, pos := "laws.go:389", after := #[{ on := 7, ground := Go.Ground.data }, { on := 10, ground := Go.Ground.data }, { on := 3, ground := Go.Ground.guard }], guard := some (3, false) }) (v := undef) rfl (by kernel_rfl) (by kernel_rfl) (by kernel_rfl) (fun _ _ _ h => h) (Or.inr ⟨by rfl, rfl⟩) hHeld ?_
    try simp only [Act.put, List.setIfInBounds_toArray, List.set_cons_zero, List.set_cons_succ]
    refine wpAnyH_take (i := 12) (oi := { dst := some 15, op := Go.Op.load 26 (Go.Operand.tmp 14), type := 26, pos := "laws.go:389", after := #[{ on := 11, ground := Go.Ground.data }, { on := 3, ground := Go.Ground.guard }], guard := some (3, false) }) (v := undef) rfl (by kernel_rfl) (by kernel_rfl) (by kernel_rfl) (fun _ _ _ h => h) (Or.inr ⟨by rfl, rfl⟩) hHeld ?_
    try simp only [Act.put, List.setIfInBounds_toArray, List.set_cons_zero, List.set_cons_succ]
    refine wpAnyH_take (i := 13) (oi := { dst := some 16, op := Go.Op.binOp Go.BinOp.eql 26 (Go.Operand.tmp 9) (Go.Operand.tmp 15) 26, type := 4, pos := "laws.go:389", after := #[{ on := 6, ground := Go.Ground.data }, { on := 12, ground := Go.Ground.data }, { on := 3, ground := Go.Ground.guard }], guard := some (3, false) }) (v := undef) rfl (by kernel_rfl) (by kernel_rfl) (by kernel_rfl) (fun _ _ _ h => h) (Or.inr ⟨by rfl, rfl⟩) hHeld ?_
    try simp only [Act.put, List.setIfInBounds_toArray, List.set_cons_zero, List.set_cons_succ]
    refine wpAnyH_take (i := 14) (oi := { dst := some 17, op := Go.Op.pick (Go.Operand.tmp 6) (Go.Operand.const (Go.Value.bool true)) (Go.Operand.tmp 16), type := 4, pos := "laws.go:389", after := #[{ on := 3, ground := Go.Ground.data }, { on := 13, ground := Go.Ground.data }], guard := none }) (v := ?vab14) rfl (by kernel_rfl) (by kernel_rfl) (by kernel_rfl) (fun _ _ _ h => h) (Or.inl ⟨by rfl, ?hab14⟩) hHeld ?rab14
    case hab14 => (intro w hSw; (try dsimp only at hSw); go_simp; try with_reducible rfl)
    try simp only [Act.put, List.setIfInBounds_toArray, List.set_cons_zero, List.set_cons_succ]
    refine wpAnyH_take (i := 15) (oi := { dst := some 2, op := Go.Op.assign (Go.Operand.tmp 17), type := 4, pos := "laws.go:389", after := #[{ on := 14, ground := Go.Ground.data }, { on := 3, ground := Go.Ground.chain }, { on := 0, ground := Go.Ground.phase }, { on := 1, ground := Go.Ground.phase }, { on := 2, ground := Go.Ground.phase }, { on := 3, ground := Go.Ground.phase }, { on := 4, ground := Go.Ground.phase }, { on := 5, ground := Go.Ground.phase }, { on := 6, ground := Go.Ground.phase }, { on := 7, ground := Go.Ground.phase }, { on := 8, ground := Go.Ground.phase }, { on := 9, ground := Go.Ground.phase }, { on := 10, ground := Go.Ground.phase }, { on := 11, ground := Go.Ground.phase }, { on := 12, ground := Go.Ground.phase }, { on := 13, ground := Go.Ground.phase }, { on := 14, ground := Go.Ground.phase }], guard := none }) (v := ?vab15) rfl (by kernel_rfl) (by kernel_rfl) (by kernel_rfl) (fun _ _ _ h => h) (Or.inl ⟨by rfl, ?hab15⟩) hHeld ?rab15
    case hab15 => (intro w hSw; (try dsimp only at hSw); go_simp; try with_reducible rfl)
    try simp only [Act.put, List.setIfInBounds_toArray, List.set_cons_zero, List.set_cons_succ]
    refine wpAnyH_done (by kernel_rfl) ?_ _
    refine NoPanic.normal ?_
    go_wp2
    go_ret
    exact ⟨rfl, hHeld⟩
  · obtain ⟨m, rfl⟩ : ∃ m, n = m + 1 := ⟨r.length, by rw [← hn]; rfl⟩
    have hr : r.length = m := by simpa using hn
    obtain ⟨b, off, f, rfl, hb, hx⟩ := hT.out (k := 0) (by simp)
    obtain ⟨_, _, _, q0, q1⟩ := hx 0 (by simp)
    obtain ⟨_, _, _, r0, r1⟩ := hx m (by simp [hr])
    obtain ⟨d, Hd⟩ : ∃ d, Hid ((p :: r)[m]'(by simp [hr]) = d) := ⟨_, (rfl : (p :: r)[m]'(by simp [hr]) = _)⟩
    have HL : Hid ((p :: r).getLast (by simp) = d) := (by rw [← Hd.out, List.getLast_eq_getElem]; congr 1 : (p :: r).getLast (by simp) = d)
    rw [List.getElem_cons_zero, Nat.zero_mul, Nat.add_zero] at q0 q1
    rw [Hd.out] at r0 r1
    obtain ⟨R, HR⟩ : ∃ R, Hid ((decide (p.x = d.x) && decide (p.y = d.y)) = R) := ⟨_, (rfl : (decide (p.x = d.x) && decide (p.y = d.y)) = _)⟩
    have HC : Hid (clB (p :: r) = R) := (by rw [← HR.out, ← HL.out]; rfl : clB (p :: r) = R)
    rw [HC.out]
    have hEq : ∀ w', Sem.run Try.prog (binOp .eql 26 (.agg #[.int .i64 p.x, .int .i64 p.y]) (.agg #[.int .i64 d.x, .int .i64 d.y])) w' = .ok (.bool R) w' := fun w' => by rw [← HR.out]; exact ptEq _ _ _ _ _
    have hw1 : IntKind.i64.wrap (m : Int) = m := by rw [IntKind.wrap_i64]; omega
    have hm0 : (0 : Int) < (m : Int) + 1 := by omega
    have hm1 : (m : Int) < (m : Int) + 1 := by omega
    have hz : ((m : Int) + 1 == 0) = false := by simp only [beq_eq_false_iff_ne]; omega
    have hz2 : ((((m + 1 : Nat) : Int)) == 0) = false := by simp only [beq_eq_false_iff_ne]; omega
    clear hx hT hn
    go_enter Try.func10, Try.ntmps10
    go_wp2
    go_quiet (fail)
    go_wp2
    go_ret
    exact ⟨rfl, bel_drewN (Bel.refl _) _⟩
end Go.Proofs.Ytkpgcnfokohhiaa
