/-
  The squares that a room lies in.
  The squares that a room lies in: the row of them.
-/
import Derived.Test.YtpbpnkklnbmkeaaRowH
import Derived.Test.YtpbpnkklnbmkeaaGrdM
import Derived.Laws.AppendOwnNone
import Derived.Deep.AppendLies
import Derived.Deep.RegionHeld3
import Derived.Deep.DeepCutAuto
namespace Go.Proofs.Ytpbpnkklnbmkeaa
open Go.RowKit Go.Maps

structure SqD where
  c : Int
  r : Int
def SqE : Elem SqD := fun w b o d bs => bs = [] ∧ In64 d.c ∧ In64 d.r ∧ w.cell? ⟨b, o, none⟩ = some (.int .i64 d.c) ∧ w.cell? ⟨b, o + 1, none⟩ = some (.int .i64 d.r)
theorem sqE : Stays 2 SqE := ⟨fun ⟨h0, i0, i1, h1, h2⟩ hc _ => ⟨h0, i0, i1, same_cell hc 0 (by decide) h1, same_cell hc 1 (by decide) h2⟩, fun ⟨h1, _⟩ x hx => by subst h1; cases hx⟩
abbrev SqsL := Sl 2 SqE
def SqP (d : SqD) : Prop := In64 d.c ∧ In64 d.r
def sqCs (d : SqD) : List Value := [.int .i64 d.c, .int .i64 d.r]
theorem sqF : Flat 2 SqE SqP sqCs :=
  ⟨fun _ => rfl, fun _ u hu => by simp only [sqCs, List.mem_cons, List.not_mem_nil, or_false] at hu; rcases hu with rfl | rfl <;> rfl,
    fun ⟨_, i0, i1, h1, h2⟩ => ⟨⟨i0, i1⟩, fun j hj => by match j, hj with | 0, _ => exact h1 | 1, _ => exact h2⟩,
    fun hp hc => ⟨rfl, hp.1, hp.2, hc 0 (by simp [sqCs]), hc 1 (by simp [sqCs])⟩⟩
theorem infoSq : (Try.prog.info? 101).map (fun i => (i.zero, i.size, i.bytes)) = some (some (.agg #[.int .i64 0, .int .i64 0]), 2, 16) := by kernel_rfl

/-- The number of the square, from the plane's lowest edge on. -/
def sqn (x : Int) : Int := (x + 10000000) / 100000
def XOk (x : Int) : Prop := -10000000 ≤ x ∧ x ≤ 10100000
theorem sqn_le {x : Int} (h : XOk x) : 0 ≤ sqn x ∧ sqn x ≤ 201 := by
  obtain ⟨h1, h2⟩ := h; unfold sqn; omega
theorem sqn_in {x : Int} (h : XOk x) : In64 (sqn x) := by have := sqn_le h; exact ⟨by omega, by omega⟩
theorem sqn_t {x : Int} (h : XOk x) : (x + 10000000).tdiv 100000 = sqn x := by
  obtain ⟨h1, h2⟩ := h
  rw [Int.tdiv_eq_ediv_of_nonneg (by omega)]; rfl
set_option maxHeartbeats 1000000 in
theorem squareAt_any (x y : Int) (w : World) (hx : XOk x) (hy : XOk y) :
    Calls Try.prog 71 #[.agg #[.int .i64 x, .int .i64 y]] w fun e w' => e = .returned (.agg #[.int .i64 (sqn x), .int .i64 (sqn y)]) ∧ Bel w w' := by
  have hx1 := sqn_t hx
  have hy1 := sqn_t hy
  have hx2 := sqn_le hx
  have hy2 := sqn_le hy
  obtain ⟨x0, x1⟩ := hx
  obtain ⟨y0, y1⟩ := hy
  go_enter Try.func71, Try.ntmps71
  go_wp2
  exact bodyPost_ret (v := .agg #[.int .i64 (sqn x), .int .i64 (sqn y)]) (by simp [results, Try.results71, go_sem]) rfl ⟨rfl, by with_reducible repeat (first | exact Bel.refl _ | refine Bel.drew ?_ | refine bel_alloc ?_ _)⟩
end Go.Proofs.Ytpbpnkklnbmkeaa

namespace Go.Proofs.Ytpbpnkklnbmkeaa
open Go.RowKit Go.Maps

def sqRow (k b : Int) (j : Nat) : List SqD := (List.range j).map fun (i : Nat) => (⟨k, b + i⟩ : SqD)
def sqCols (a b : Int) (nr : Nat) (k : Nat) : List SqD := (List.range k).flatMap fun (i : Nat) => sqRow (a + i) b nr
def sqs (a b c d : Int) : List SqD := sqCols (sqn a) (sqn b) (sqn d - sqn b + 1).toNat (sqn c - sqn a + 1).toNat
theorem sqRow_succ (k b : Int) (j : Nat) : sqRow k b (j + 1) = sqRow k b j ++ [⟨k, b + j⟩] := by simp [sqRow, List.range_succ]
theorem sqCols_succ (a b : Int) (nr k : Nat) : sqCols a b nr (k + 1) = sqCols a b nr k ++ sqRow (a + k) b nr := by simp [sqCols, List.range_succ]
theorem sqRow_len (k b : Int) (j : Nat) : (sqRow k b j).length = j := by simp [sqRow]
theorem sqCols_len (a b : Int) (nr : Nat) : ∀ k, (sqCols a b nr k).length = k * nr
  | 0 => by simp [sqCols]
  | k + 1 => by rw [sqCols_succ, List.length_append, sqCols_len a b nr k, sqRow_len, Nat.succ_mul]
theorem mem_sqs {a b c d : Int} {s : SqD} : s ∈ sqs a b c d ↔ (sqn a ≤ s.c ∧ s.c ≤ sqn c) ∧ sqn b ≤ s.r ∧ s.r ≤ sqn d := by
  unfold sqs sqCols sqRow
  simp only [List.mem_flatMap, List.mem_range, List.mem_map]
  constructor
  · rintro ⟨i, hi, j, hj, rfl⟩
    simp only
    omega
  · rintro ⟨⟨h1, h2⟩, h3, h4⟩
    refine ⟨(s.c - sqn a).toNat, by omega, (s.r - sqn b).toNat, by omega, ?_⟩
    cases s
    simp only [SqD.mk.injEq] at *
    omega
/-- Where the two corners' squares lie. -/
structure CutS (b : World) (x0 y0 x1 y1 : Int) (s t : Value) (w : World) : Prop where
  out : ∃ p q : Nat, s = .pointer (some ⟨p, 0, none⟩) ∧ t = .pointer (some ⟨q, 0, none⟩) ∧ p < w.heap.size ∧ q < w.heap.size ∧ w.cell? ⟨p, 0, none⟩ = some (.int .i64 x0) ∧ w.cell? ⟨p, 1, none⟩ = some (.int .i64 y0) ∧ w.cell? ⟨q, 0, none⟩ = some (.int .i64 x1) ∧ w.cell? ⟨q, 1, none⟩ = some (.int .i64 y1) ∧ Bel b w
abbrev z2s : Obj := .cells #[.int .i64 0, .int .i64 0] 101
/-- A block that was laid ahead of a call. -/
structure Lz (w : World) (g : Nat) : Prop where
  c : w.cell? ⟨g, 0, none⟩ = some (.int .i64 0) ∧ w.cell? ⟨g, 1, none⟩ = some (.int .i64 0) ∧ w.frozen? ⟨g, 0, none⟩ = false ∧ w.frozen? ⟨g, 1, none⟩ = false ∧ g < w.heap.size
theorem Lz.of {w : World} {g : Nat} (h : Blk w g [.int .i64 0, .int .i64 0]) : Lz w g := ⟨h.cell 0 (by simp), h.cell 1 (by simp), h.free 0, h.free 1, h.lt⟩
theorem Lz.new {W w : World} (h : Bel (W.alloc z2s) w) : Lz w W.heap.size := Lz.of ((Blk.new W [.int .i64 0, .int .i64 0] _).bel h)
theorem Lz.bel {w w' : World} {g : Nat} (h : Lz w g) (hb : Bel w w') : Lz w' g :=
  ⟨bel_cellM hb h.c.2.2.2.2 h.c.1, bel_cellM hb h.c.2.2.2.2 h.c.2.1, by rw [hb.out.frozen (p := ⟨g, 0, none⟩) h.c.2.2.2.2]; exact h.c.2.2.1, by rw [hb.out.frozen (p := ⟨g, 1, none⟩) h.c.2.2.2.2]; exact h.c.2.2.2.1, bel_lt hb h.c.2.2.2.2⟩
theorem Lz.new2 {W w : World} (h : Bel ((W.alloc z2s).alloc z2s) w) : Lz w W.heap.size ∧ Lz w (W.heap.size + 1) :=
  ⟨Lz.new (bel_step (bel_alloc (Bel.refl _) _) h), by have := Lz.new h; simpa using this⟩

/-- What squaresOf answers with. -/
structure SqOut (w : World) (L : List SqD) (e : Ending) (w' : World) : Prop where
  out : ∃ va vc cs, e = .returned (.slice va L.length vc) ∧ SqsL w' va L cs ∧ (∀ x ∈ cs, w.heap.size ≤ x) ∧ Bel w w'
set_option maxRecDepth 100000 in
set_option maxHeartbeats 4000000 in
theorem squaresOf_any (x0 y0 x1 y1 : Int) (w : World) (hx0 : XOk x0) (hy0 : XOk y0) (hx1 : XOk x1) (hy1 : XOk y1) (hx : x0 ≤ x1) (hy : y0 ≤ y1) :
    Calls Try.prog 59 #[.agg #[.int .i64 x0, .int .i64 y0, .int .i64 x1, .int .i64 y1]] w fun e w' => SqOut w (sqs x0 y0 x1 y1) e w' := by
  obtain ⟨i0, hi0, hz0, hz1, hz2⟩ := info_parts infoSq
  obtain ⟨b, Hb⟩ : ∃ b, Hid (b = w.alloc (.cells #[.int .i64 x0, .int .i64 y0, .int .i64 x1, .int .i64 y1] 70)) := ⟨_, (rfl : w.alloc (.cells #[.int .i64 x0, .int .i64 y0, .int .i64 x1, .int .i64 y1] 70) = _)⟩
  have hwb : Bel w b := by rw [Hb.out]; exact bel_alloc (Bel.refl _) _
  have Xb : Blk b w.heap.size [.int .i64 x0, .int .i64 y0, .int .i64 x1, .int .i64 y1] := by rw [Hb.out]; exact Blk.new w [.int .i64 x0, .int .i64 y0, .int .i64 x1, .int .i64 y1] _
  have hR : ∀ v, Bel b v → v.cell? ⟨w.heap.size, 0, none⟩ = some (.int .i64 x0) ∧ v.cell? ⟨w.heap.size, 1, none⟩ = some (.int .i64 y0) ∧ v.cell? ⟨w.heap.size, 2, none⟩ = some (.int .i64 x1) ∧ v.cell? ⟨w.heap.size, 3, none⟩ = some (.int .i64 y1) := fun v h => by
    have p := Xb.bel h
    exact ⟨p.cell 0 (by simp), p.cell 1 (by simp), p.cell 2 (by simp), p.cell 3 (by simp)⟩
  have hbb := Bel.refl b
  go_enter Try.func59, Try.ntmps59
  go_wp2
  rw [← Hb.out]
  go_cut [3, 4] (fun s t wx => CutS b (sqn x0) (sqn y0) (sqn x1) (sqn y1) s t wx)
  case first =>
    go_region_held3 (fun w' => w'.cell? ⟨w.heap.size, 0, none⟩ = some (.int .i64 x0) ∧ w'.cell? ⟨w.heap.size, 1, none⟩ = some (.int .i64 y0) ∧ w'.cell? ⟨w.heap.size, 2, none⟩ = some (.int .i64 x1) ∧ w'.cell? ⟨w.heap.size, 3, none⟩ = some (.int .i64 y1))
      (exact hR _ (by with_reducible (repeat (first | assumption | refine Bel.drew ?_ | refine bel_alloc ?_ _ | refine bel_set ?_ (by first | exact Nat.le_refl _ | exact Nat.le_succ _ | exact hsa | exact hsb | exact Nat.le_succ_of_le hsa | exact Nat.le_succ_of_le hsb) _))))
      (first
        | (go_at_call 71; refine (fun hchk : True ∧ _ => ?_) ⟨trivial, hDa⟩; refine (squareAt_any x1 y1 _ hx1 hy1).mono ?_; rintro e wb ⟨rfl, hOb⟩; refine (fun hDb : Bel b wb => ?_) (bel_step (by with_reducible (repeat (first | assumption | exact Bel.refl _ | refine Bel.drew ?_ | refine bel_alloc ?_ _))) hOb); refine (fun hDab : Bel wa wb => ?_) (bel_step (w := wa) (by with_reducible (repeat (first | assumption | exact Bel.refl _ | refine Bel.drew ?_ | refine bel_alloc ?_ _))) hOb); refine (fun hsb : b.heap.size ≤ wb.heap.size => ?_) hDb.out.size; (first | (refine (fun hq : Lz wb b.heap.size ∧ Lz wb (b.heap.size + 1) => ?_) ⟨na.1.bel hDab, na.2.bel hDab⟩) | (refine (fun hq : Lz wb b.heap.size => ?_) (na.bel hDab)) | skip); (first | (refine (fun hr : Lz wb wa.heap.size ∧ Lz wb (wa.heap.size + 1) => ?_) (Lz.new2 (W := wa) hOb)) | (refine (fun hr : Lz wb wa.heap.size => ?_) (Lz.new (W := wa) hOb)) | skip); (first | (refine (fun hcs : (_ ∧ _) ∧ _ => ?_) ⟨hq.1.c, hq.2.c⟩) | (refine (fun hcs : _ ∧ _ => ?_) hq.c) | skip); (first | (refine (fun hct : (_ ∧ _) ∧ _ => ?_) ⟨hr.1.c, hr.2.c⟩) | (refine (fun hct : _ ∧ _ => ?_) hr.c) | skip); (first | (refine (fun hne : ¬ b.heap.size = wa.heap.size ∧ ¬ wa.heap.size = b.heap.size => ?_) (by have := na.c.2.2.2.2; omega)) | skip); (first | (refine (fun hne2 : ¬ b.heap.size = wb.heap.size ∧ ¬ wb.heap.size = b.heap.size => ?_) (by have := hq.c.2.2.2.2; omega)) | skip); (first | (refine (fun hne3 : ¬ wa.heap.size = wb.heap.size ∧ ¬ wb.heap.size = wa.heap.size => ?_) (by have := hr.c.2.2.2.2; omega)) | skip))
        | (go_at_call 71; refine (squareAt_any x0 y0 _ hx0 hy0).mono ?_; rintro e wa ⟨rfl, hOa⟩; refine (fun hDa : Bel b wa => ?_) (bel_step (by with_reducible (repeat (first | assumption | exact Bel.refl _ | refine Bel.drew ?_ | refine bel_alloc ?_ _))) hOa); refine (fun hsa : b.heap.size ≤ wa.heap.size => ?_) hDa.out.size; (first | (refine (fun na : Lz wa b.heap.size ∧ Lz wa (b.heap.size + 1) => ?_) (Lz.new2 (W := b.drew) hOa)) | (refine (fun na : Lz wa b.heap.size => ?_) (Lz.new (W := b.drew) hOa)) | skip)))
    all_goals
      go_wp2_with fail
      go_meet
      case rel =>
        refine ⟨_, _, rfl, rfl, ?_, ?_, ?_, ?_, ?_, ?_, ?_⟩
        case refine_7 => with_reducible (repeat (first | assumption | refine bel_alloc ?_ _ | refine bel_set ?_ (by first | exact Nat.le_refl _ | exact Nat.le_succ _ | exact hsa | exact hsb | exact Nat.le_succ_of_le hsa | exact Nat.le_succ_of_le hsb) _))
        all_goals first | (go_simp; done) | (simp [World.setCell]; omega) | (simp [go_sem, *]; done) | trace_state
  case rest =>
    clear hR hbb
    obtain ⟨p, q, rfl, rfl, hp, hq, c0, c1, d0, d1, hBc⟩ := hcut.out
    obtain ⟨w2, rfl⟩ : ∃ V, V = wc := ⟨_, rfl⟩
    have hB2 : Bel w w2 := bel_step hwb hBc
    have hlo := hB2.out.size
    obtain ⟨A, HA⟩ : ∃ A, Hid (A = sqn x0) := ⟨_, (rfl : sqn x0 = _)⟩
    obtain ⟨B, HB⟩ : ∃ A, Hid (A = sqn y0) := ⟨_, (rfl : sqn y0 = _)⟩
    obtain ⟨C, HC⟩ : ∃ A, Hid (A = sqn x1) := ⟨_, (rfl : sqn x1 = _)⟩
    obtain ⟨D, HD⟩ : ∃ A, Hid (A = sqn y1) := ⟨_, (rfl : sqn y1 = _)⟩
    have hA := sqn_le hx0
    have hB := sqn_le hy0
    have hC := sqn_le hx1
    have hD := sqn_le hy1
    have hAC : sqn x0 ≤ sqn x1 := by unfold sqn; omega
    have hBD : sqn y0 ≤ sqn y1 := by unfold sqn; omega
    have HL : Hid (sqs x0 y0 x1 y1 = sqCols A B (D - B + 1).toNat (C - A + 1).toNat) := by unfold sqs; rw [HA.out, HB.out, HC.out, HD.out]; exact rfl
    rw [← HA.out] at hA hAC c0
    rw [← HB.out] at hB hBD c1
    rw [← HC.out] at hC hAC d0
    rw [← HD.out] at hD hBD d1
    obtain ⟨nc, Hnc⟩ : ∃ n : Nat, Hid ((n : Int) = C - A + 1) := ⟨(C - A + 1).toNat, ((by omega) : (((C - A + 1).toNat : Nat) : Int) = C - A + 1)⟩
    obtain ⟨nr, Hnr⟩ : ∃ n : Nat, Hid ((n : Int) = D - B + 1) := ⟨(D - B + 1).toNat, ((by omega) : (((D - B + 1).toNat : Nat) : Int) = D - B + 1)⟩
    have hnc := Hnc.out
    have hnr := Hnr.out
    have HL' : Hid (sqs x0 y0 x1 y1 = sqCols A B nr nc) := by rw [HL.out, show (D - B + 1).toNat = nr by omega, show (C - A + 1).toNat = nc by omega]; exact rfl
    clear HL HA HB HC HD hcut Xb hx0 hy0 hx1 hy1 hx hy Hb hwb hBc
    have G0 : Gr 2 (flatV SqP sqCs) 101 w2.heap.size w2 (.slice none 0 0) [] (fun _ => List.replicate 2 (.bool false)) (fun _ => []) := Gr.nil _ _ _ _ _
    go_wp2
    go_loopw [5, 6] (fun o i wr => ∃ (k : Nat) (R : Nat → List Value), k ≤ nc ∧ i = .int .i64 (A + k) ∧ Gr 2 (flatV SqP sqCs) 101 w2.heap.size wr o (sqCols A B nr k) R (fun _ => []) ∧ Bel w2 wr) (fun _ i _ => (C + 1 - intOf i).toNat)
    case atStart => exact ⟨0, _, Nat.zero_le _, by simp, by simpa [sqCols] using G0, Bel.refl _⟩
    case round =>
      clear G0
      obtain ⟨k, R, hk, rfl, hG, hBr⟩ := hrel
      have C0 := bel_cellM hBr hp c0
      have C1 := bel_cellM hBr hp c1
      have D0 := bel_cellM hBr hq d0
      have D1 := bel_cellM hBr hq d1
      have hp2 := bel_lt hBr hp
      have hq2 := bel_lt hBr hq
      obtain ⟨va, vc, rfl⟩ := own_shape hG.own
      by_cases hlt : k < nc
      · have hle : A + (k : Int) ≤ C := by omega
        have HG : Hid (Gr 2 (flatV SqP sqCs) 101 w2.heap.size wr (.slice va (sqCols A B nr k).length vc) (sqCols A B nr k ++ sqRow (A + k) B 0) R (fun _ => [])) := by
          have e : sqCols A B nr k ++ sqRow (A + k) B 0 = sqCols A B nr k := by simp [sqRow]
          rw [e]; exact hG
        have HLn : Hid ((sqCols A B nr k).length = k * nr) := sqCols_len _ _ _ _
        clear hG
        go_wp2
        go_loopw [5, 7] (fun o i wr => ∃ (j : Nat) (R : Nat → List Value), j ≤ nr ∧ i = .int .i64 (B + j) ∧ Gr 2 (flatV SqP sqCs) 101 w2.heap.size wr o (sqCols A B nr k ++ sqRow (A + k) B j) R (fun _ => []) ∧ Bel w2 wr) (fun _ i _ => (D + 1 - intOf i).toNat)
        case atStart => exact ⟨0, _, Nat.zero_le _, by simp, HG.out, hBr⟩
        case round =>
          clear HG hBr C0 C1 D0 D1
          obtain ⟨j, R, hj, rfl, hG, hBr⟩ := hrel
          have C0 := bel_cellM hBr hp c0
          have C1 := bel_cellM hBr hp c1
          have D0 := bel_cellM hBr hq d0
          have D1 := bel_cellM hBr hq d1
          have hp3 := bel_lt hBr hp
          have hq3 := bel_lt hBr hq
          obtain ⟨va, vc, rfl⟩ := own_shape hG.own
          by_cases hltj : j < nr
          · have hlej : B + (j : Int) ≤ D := by omega
            have HLn2 : Hid ((sqCols A B nr k ++ sqRow (A + k) B j).length ≤ 50000) := by
              have e : (sqCols A B nr k ++ sqRow (A + k) B j).length = k * nr + j := by rw [List.length_append, HLn.out, sqRow_len]
              have : k * nr ≤ 202 * 202 := Nat.mul_le_mul (by omega) (by omega)
              show _ ≤ _; omega
            have HS : Hid (sqCols A B nr k ++ sqRow (A + k) B (j + 1) = (sqCols A B nr k ++ sqRow (A + k) B j) ++ [⟨A + k, B + j⟩]) := by rw [sqRow_succ, List.append_assoc]; exact rfl
            obtain ⟨L, HLL⟩ : ∃ L, Hid (L = sqCols A B nr k ++ sqRow (A + k) B j) := ⟨_, (rfl : sqCols A B nr k ++ sqRow (A + k) B j = _)⟩
            rw [← HLL.out] at hG HLn2 HS ⊢
            have HG : Hid (Gr 2 (flatV SqP sqCs) 101 w2.heap.size wr (.slice va L.length vc) L R (fun _ => [])) := hG
            have hown2 := World.ownsRow.alloc hG.own (.cells #[.int .i64 (A + k), .int .i64 (B + j)] 101)
            have hBa := bel_alloc hBr (.cells #[.int .i64 (A + k), .int .i64 (B + j)] 101)
            have hs3 : w2.heap.size ≤ wr.heap.size := hBr.out.size
            have HP' : Hid (SqP ⟨A + k, B + j⟩) := ⟨⟨by simp only; omega, by simp only; omega⟩, ⟨by simp only; omega, by simp only; omega⟩⟩
            clear hG
            go_wp2_with (first
              | (at_builtin; refine wpList_append_lies _ rfl _ _ 97 rfl w2.heap.size 101 i0 (.agg #[.int .i64 0, .int .i64 0]) 2 16 Try.underlying97 hi0 hz0 hz1 hz2 rfl (by decide) _ _ _ rfl hown2 ⟨wr.heap.size, 0, none⟩ 1 1 [.int .i64 (A + k), .int .i64 (B + j)] rfl rfl ?c1 ?c2 (by decide) ?c3 ?c4 ?c5 (wr.heap.size + 1) ?c6 ?_)
              | go_in)
            case c1 =>
              intro t u ht
              match t, ht with
              | 0, ht => simp at ht; subst ht; simp [Addr.add]
              | 1, ht => simp at ht; subst ht; simp [Addr.add]
            case c2 =>
              intro u hu
              simp at hu
              rcases hu with rfl | rfl <;> rfl
            case c3 => have := HLn2.out; unfold maxLen; omega
            case c4 => have := HLn2.out; omega
            case c5 => simp; omega
            case c6 => simp
            intro g cap w4 hown' hgrow hat _
            have HG3 : Hid (∃ R', Gr 2 (flatV SqP sqCs) 101 w2.heap.size w4 (.slice (some ⟨g, 0, none⟩) (L.length + 1) cap) (sqCols A B nr k ++ sqRow (A + k) B (j + 1)) R' (fun _ => [])) := by
              have hat' : (Value.slice va L.length vc).ownBlock = some g ∨ g = (wr.alloc (.cells #[.int .i64 (A + k), .int .i64 (B + j)] 101)).heap.size := by simpa using hat
              have := Gr.addF sqF (d := ⟨A + k, B + j⟩) HG.out (bel_alloc (Bel.refl wr) (.cells #[.int .i64 (A + k), .int .i64 (B + j)] 101)) HP'.out hs3 hown' hgrow (hatF hat')
              rw [HS.out]
              exact this
            have hB4 : Bel w2 w4 := bel_grow hBa hgrow (fun t e => (hown2.lt t e).1)
            clear hown' hgrow hown2 hBa HG hat HS
            go_wp2
            go_roundw
            case rel =>
              obtain ⟨R', G'⟩ := HG3.out
              exact ⟨j + 1, R', by omega, by go_num, G', hB4⟩
            case measure => simp [intOf]; omega
          · have e : j = nr := by omega
            subst e
            have HG2 : Hid (Gr 2 (flatV SqP sqCs) 101 w2.heap.size wr (.slice va (sqCols A B j k ++ sqRow (A + k) B j).length vc) (sqCols A B j (k + 1)) R (fun _ => [])) := by rw [sqCols_succ]; exact hG
            have hgt : ¬ B + (j : Int) ≤ D := by omega
            clear hG
            go_wp2
            go_roundw
            case rel => exact ⟨k + 1, R, by omega, by go_num, HG2.out, hBr⟩
            case measure => simp [intOf]; omega
      · have e : k = nc := by omega
        subst e
        have hgt : ¬ A + (k : Int) ≤ C := by omega
        have HG : Hid (Gr 2 (flatV SqP sqCs) 101 w2.heap.size wr (.slice va (sqs x0 y0 x1 y1).length vc) (sqs x0 y0 x1 y1) R (fun _ => [])) := by rw [HL'.out]; exact hG
        have HE : Hid ((sqCols A B nr k).length = (sqs x0 y0 x1 y1).length) := by rw [HL'.out]; exact rfl
        clear hG
        go_wp2
        obtain ⟨a', c', cs, e, S', M'⟩ := Gr.out sqF.stays HG.out
        injection e with e1 e2 e3
        exact bodyPost_ret (v := .slice va (sqCols A B nr k).length vc) (by simp [results, Try.results59, go_sem]) rfl ⟨⟨va, vc, cs, by rw [HE.out], by rw [e1]; exact S', fun x hx => Nat.le_trans hlo (M'.new x hx).1, bel_step hB2 hBr⟩⟩
end Go.Proofs.Ytpbpnkklnbmkeaa
