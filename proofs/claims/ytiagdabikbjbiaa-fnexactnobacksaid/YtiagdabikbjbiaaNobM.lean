/-
  Turns back forbidden: the program's set, with what it takes back at dead ends, and the model's list come to the same.
-/
import Derived.Test.YtiagdabikbjbiaaFrbI
namespace Go.Proofs.Ytiagdabikbjbiaa
open Go.RowKit Go.Maps

/-- Road k leads back where road x comes from, on the same way. -/
def isBk (rs : List RoadD) (x k : Nat) : Bool := (rs[x]?).any fun a => (rs[k]?).any fun b => decide (b.to = a.fr ∧ b.way = a.way)
theorem isBk_at {rs : List RoadD} {x k : Nat} (hx : x < rs.length) (hk : k < rs.length) : isBk rs x k = decide (rs[k].to = rs[x].fr ∧ rs[k].way = rs[x].way) := by
  simp [isBk, hx, hk]
/-- The turns back of a road are put, while there are not too many. -/
def bkL (rs : List RoadD) (x : Nat) (L : List BanD) (row : List Nat) : List BanD := row.foldl (fun L k => if isBk rs x k then capB L ⟨x, k⟩ else L) L
theorem bkL_step {rs : List RoadD} {x : Nat} {L : List BanD} {row : List Nat} {j : Nat} (hj : j < row.length) : bkL rs x L (row.take (j + 1)) = if isBk rs x row[j] then capB (bkL rs x L (row.take j)) ⟨x, row[j]⟩ else bkL rs x L (row.take j) := by
  unfold bkL
  rw [List.take_succ_eq_append_getElem hj, List.foldl_append]; rfl
theorem bkL_len {rs : List RoadD} {x : Nat} : ∀ {row : List Nat} {L : List BanD}, L.length ≤ 2001 → (bkL rs x L row).length ≤ 2001
  | [], _, h => h
  | k :: r, L, h => by
    show (bkL rs x (if isBk rs x k then capB L ⟨x, k⟩ else L) r).length ≤ 2001
    refine bkL_len ?_
    split
    · exact capB_len h
    · exact h
def goes (rs : List RoadD) (x : Nat) (row : List Nat) : Bool := row.any fun k => !isBk rs x k
theorem goes_step {rs : List RoadD} {x : Nat} {row : List Nat} {j : Nat} (hj : j < row.length) : goes rs x (row.take (j + 1)) = (goes rs x (row.take j) || !isBk rs x row[j]) := by
  unfold goes
  rw [List.take_succ_eq_append_getElem hj, List.any_append]
  simp

/-- What capped puts come to. -/
theorem cap_srt {L : List BanD} (h : SrtB L) (b : BanD) : SrtB (capB L b) := by
  unfold capB
  split
  · exact addB_srt L b h
  · exact h
theorem cap_sub {L : List BanD} {b y : BanD} (h : y ∈ capB L b) : y = b ∨ y ∈ L := by
  unfold capB at h
  split at h
  · exact (addB_mem L b y).1 h
  · exact .inr h
theorem cap_sup {L : List BanD} {b y : BanD} (h : y ∈ L) : y ∈ capB L b := by
  unfold capB
  split
  · exact (addB_mem L b y).2 (.inr h)
  · exact h
theorem cap_self {L : List BanD} {b : BanD} (h : (capB L b).length ≤ 2000) : b ∈ capB L b := by
  by_cases hl : L.length ≤ 2000
  · rw [capB_yes hl]; exact (addB_mem L b b).2 (.inl rfl)
  · rw [capB_no hl] at h; exact absurd h hl
theorem fold_srt : ∀ (l : List BanD) {L : List BanD}, SrtB L → SrtB (l.foldl capB L)
  | [], _, h => h
  | b :: r, _, h => fold_srt r (cap_srt h b)
theorem fold_sup : ∀ (l : List BanD) {L : List BanD} {y : BanD}, y ∈ L → y ∈ l.foldl capB L
  | [], _, _, h => h
  | _ :: r, _, _, h => fold_sup r (cap_sup h)
theorem fold_sub : ∀ (l : List BanD) {L : List BanD} {y : BanD}, y ∈ l.foldl capB L → y ∈ l ∨ y ∈ L
  | [], _, _, h => .inr h
  | b :: r, _, _, h => (fold_sub r h).elim (fun h => .inl (List.mem_cons_of_mem _ h)) fun h => (cap_sub h).elim (fun e => .inl (by rw [e]; simp)) .inr
theorem cap_mono {L : List BanD} (b : BanD) : L.length ≤ (capB L b).length ∨ b ∈ L := by
  by_cases hb : b ∈ L
  · exact .inr hb
  · left
    unfold capB
    split
    · rw [addB_out hb]; omega
    · exact Nat.le_refl _
theorem fold_cap_no : ∀ (l : List BanD) {L : List BanD}, ¬ L.length ≤ 2000 → l.foldl capB L = L
  | [], _, _ => rfl
  | b :: r, L, h => by rw [List.foldl_cons, capB_no h]; exact fold_cap_no r h
theorem fold_got : ∀ (l : List BanD) {L : List BanD}, (l.foldl capB L).length ≤ 2000 → ∀ y ∈ l, y ∈ l.foldl capB L
  | [], _, _, _, hy => nomatch hy
  | b :: r, L, h, y, hy => by
    rw [List.foldl_cons] at h ⊢
    rcases List.mem_cons.1 hy with rfl | hy
    · by_cases hl : (capB L y).length ≤ 2000
      · exact fold_sup r (cap_self hl)
      · rw [fold_cap_no r hl] at h; exact absurd h hl
    · exact fold_got r h y hy
theorem nodup_of_srt {l : List BanD} (h : SrtB l) : l.Nodup := by
  rw [List.nodup_iff_pairwise_ne, List.pairwise_iff_getElem]
  intro i j hi hj hij e
  exact banLt_ir (e ▸ h i j hi hj hij)
theorem len_sub : ∀ {l m : List BanD}, l.Nodup → (∀ y ∈ l, y ∈ m) → l.length ≤ m.length
  | [], _, _, _ => Nat.zero_le _
  | x :: r, m, hn, h => by
    rw [List.nodup_cons] at hn
    obtain ⟨a, b, rfl⟩ := List.append_of_mem (h x (by simp))
    have := len_sub (m := a ++ b) hn.2 fun y hy => by
      have h1 := h y (List.mem_cons_of_mem _ hy)
      have hne : y ≠ x := fun e => hn.1 (e ▸ hy)
      rw [List.mem_append, List.mem_cons] at h1
      rcases h1 with h1 | h1 | h1
      · exact List.mem_append.2 (.inl h1)
      · exact absurd h1 hne
      · exact List.mem_append.2 (.inr h1)
    rw [List.length_append] at this
    rw [List.length_append, List.length_cons, List.length_cons]
    omega

/-- The turns back of a road, as a list. -/
def bkS (rs : List RoadD) (x : Nat) (row : List Nat) : List BanD := (row.filter (isBk rs x)).map fun (k : Nat) => (⟨(x : Int), (k : Int)⟩ : BanD)
theorem bkL_fold (rs : List RoadD) (x : Nat) : ∀ (row : List Nat) (L : List BanD), bkL rs x L row = (bkS rs x row).foldl capB L
  | [], _ => rfl
  | k :: r, L => by
    show bkL rs x (if isBk rs x k then capB L ⟨x, k⟩ else L) r = _
    unfold bkS
    by_cases h : isBk rs x k = true
    · rw [if_pos h, List.filter_cons_of_pos h, List.map_cons, List.foldl_cons]; exact bkL_fold rs x r _
    · rw [if_neg h, List.filter_cons_of_neg h]; exact bkL_fold rs x r _
theorem bkS_mem {rs : List RoadD} {x : Nat} {row : List Nat} {y : BanD} : y ∈ bkS rs x row ↔ ∃ k ∈ row, isBk rs x k = true ∧ y = (⟨(x : Int), ((k : Nat) : Int)⟩ : BanD) := by
  unfold bkS
  rw [List.mem_map]
  constructor
  · rintro ⟨k, hk, rfl⟩; exact ⟨k, (List.mem_filter.1 hk).1, (List.mem_filter.1 hk).2, rfl⟩
  · rintro ⟨k, hk, hb, rfl⟩; exact ⟨k, List.mem_filter.2 ⟨hk, hb⟩, rfl⟩
/-- What is taken back. -/
def delF (x : Nat) (row : List Nat) (L : List BanD) : List BanD := L.filter fun (d : BanD) => !(decide (d.fr = (x : Int)) && row.any fun (k : Nat) => decide (d.to = (k : Int)))
theorem delF_mem {x : Nat} {row : List Nat} {L : List BanD} {y : BanD} : y ∈ delF x row L ↔ y ∈ L ∧ ¬ (y.fr = x ∧ ∃ k ∈ row, y.to = ((k : Nat) : Int)) := by
  unfold delF
  rw [List.mem_filter]
  simp
  intro _
  by_cases hA : y.fr = (x : Int) <;> simp [hA]
theorem delF_srt {x : Nat} {row : List Nat} {L : List BanD} (h : SrtB L) : SrtB (delF x row L) := by
  have hp : L.Pairwise banLt := List.pairwise_iff_getElem.2 fun i j hi hj hij => h i j hi hj hij
  have := hp.sublist (List.filter_sublist (p := fun (d : BanD) => !(decide (d.fr = (x : Int)) && row.any fun (k : Nat) => decide (d.to = (k : Int)))))
  exact fun i j hi hj hij => List.pairwise_iff_getElem.1 this i j hi hj hij

/-- What the program does at a place. -/
def plF (rs : List RoadD) (bg : List Nat) : List Nat → List BanD → List BanD
  | [], L => L
  | x :: r, L => if goes rs x bg then plF rs bg r (bkL rs x L bg) else delF x bg (bkL rs x L bg)
def nbF (rs : List RoadD) (n : Nat) (L : List BanD) : Nat → List BanD
  | 0 => L
  | p + 1 => plF rs (bgF rs n true p) (bgF rs n false p) (nbF rs n L p)
/-- What the model does. -/
def nsF (rs : List RoadD) (n : Nat) (L : List BanD) : Nat → List BanD
  | 0 => L
  | i + 1 => if goes rs i (bgF rs n true (endR false (rs.getD i default)).toNat) then bkL rs i (nsF rs n L i) (bgF rs n true (endR false (rs.getD i default)).toNat) else nsF rs n L i

theorem plF_len {rs : List RoadD} {bg : List Nat} : ∀ (r : List Nat) {L : List BanD}, L.length ≤ 2001 → (plF rs bg r L).length ≤ 2001
  | [], _, h => h
  | x :: r, L, h => by
    unfold plF
    split
    · exact plF_len r (bkL_len h)
    · exact Nat.le_trans (List.length_filter_le _ _) (bkL_len h)
theorem nbF_len {rs : List RoadD} {n : Nat} {L : List BanD} (h : L.length ≤ 2001) : ∀ p, (nbF rs n L p).length ≤ 2001
  | 0 => h
  | p + 1 => plF_len _ (nbF_len h p)

/-- A turn back of a road that has others. -/
def NB (rs : List RoadD) (n p : Nat) (x k : Nat) : Prop := x ∈ bgF rs n false p ∧ k ∈ bgF rs n true p ∧ isBk rs x k = true ∧ goes rs x (bgF rs n true p) = true
def Tgt (rs : List RoadD) (n : Nat) (B : List BanD) (y : BanD) : Prop := y ∈ B ∨ ∃ p x k, NB rs n p x k ∧ y = ⟨x, k⟩
/-- Too many there are, whatever comes. -/
def Over (B S : List BanD) : Prop := ∃ Z : List BanD, Z.Nodup ∧ 2001 ≤ Z.length ∧ ∀ y ∈ Z, y ∈ S ∨ y ∈ B
theorem Over.mono {B S S' : List BanD} (h : Over B S) (hs : ∀ y ∈ S, y ∈ S' ∨ y ∈ B) : Over B S' := by
  obtain ⟨Z, h1, h2, h3⟩ := h
  exact ⟨Z, h1, h2, fun y hy => (h3 y hy).elim (hs y) .inr⟩
theorem bgF_end {rs : List RoadD} {n : Nat} {t : Bool} {p x : Nat} (hn : rs.length = n) (h : x ∈ bgF rs n t p) : ∃ hx : x < rs.length, endR t rs[x] = (p : Int) := by
  have hx : x < rs.length := by rw [hn]; exact bgF_mem h
  unfold bgF at h
  have := (List.mem_filter.1 h).2
  rw [List.getElem?_eq_getElem hx] at this
  exact ⟨hx, by simpa using this⟩
theorem bgF_in {rs : List RoadD} {n : Nat} {t : Bool} {p x : Nat} (hn : rs.length = n) (hx : x < rs.length) (h : endR t rs[x] = (p : Int)) : x ∈ bgF rs n t p := by
  unfold bgF
  refine List.mem_filter.2 ⟨List.mem_range.2 (by omega), ?_⟩
  rw [List.getElem?_eq_getElem hx]
  simpa using h
/-- Where one road has turns back alone, no other road of the place has both. -/
theorem alike_ends {rs : List RoadD} {n p x x' k : Nat} (hn : rs.length = n) (hx : x ∈ bgF rs n false p) (hg : goes rs x (bgF rs n true p) = false) : ¬ NB rs n p x' k := by
  rintro ⟨hx', hk, hb, hg'⟩
  unfold goes at hg hg'
  rw [List.any_eq_false] at hg
  rw [List.any_eq_true] at hg'
  obtain ⟨k', hk', hb'⟩ := hg'
  obtain ⟨l0, _⟩ := bgF_end hn hx
  obtain ⟨l1, _⟩ := bgF_end hn hx'
  obtain ⟨l2, _⟩ := bgF_end hn hk
  obtain ⟨l3, _⟩ := bgF_end hn hk'
  have c1 : rs[k].to = rs[x].fr ∧ rs[k].way = rs[x].way := by
    have h := hg k hk
    rw [isBk_at l0 l2] at h
    by_cases hc : rs[k].to = rs[x].fr ∧ rs[k].way = rs[x].way
    · exact hc
    · exact absurd (by rw [decide_eq_false hc]; rfl) h
  have c2 : rs[k'].to = rs[x].fr ∧ rs[k'].way = rs[x].way := by
    have h := hg k' hk'
    rw [isBk_at l0 l3] at h
    by_cases hc : rs[k'].to = rs[x].fr ∧ rs[k'].way = rs[x].way
    · exact hc
    · exact absurd (by rw [decide_eq_false hc]; rfl) h
  rw [isBk_at l1 l2, decide_eq_true_eq] at hb
  rw [isBk_at l1 l3, decide_eq_true (by exact ⟨by rw [c2.1, ← c1.1, hb.1], by rw [c2.2, ← c1.2, hb.2]⟩)] at hb'
  exact absurd hb' (by decide)

theorem bkL_srt {rs : List RoadD} {x : Nat} {L : List BanD} {row : List Nat} (h : SrtB L) : SrtB (bkL rs x L row) := by
  rw [bkL_fold]; exact fold_srt _ h
/-- What holds after p places: the turns back of roads with others are in the set, or there are too many. -/
theorem pl_inv {rs : List RoadD} {n p : Nat} {B : List BanD} (hn : rs.length = n) : ∀ (r done : List Nat) (S : List BanD), bgF rs n false p = done ++ r → SrtB S → (∀ y ∈ S, Tgt rs n B y) →
    ((∀ q x k, NB rs n q x k → q < p ∨ q = p ∧ x ∈ done → (⟨x, k⟩ : BanD) ∈ S) ∨ Over B S) →
    SrtB (plF rs (bgF rs n true p) r S) ∧ (∀ y ∈ plF rs (bgF rs n true p) r S, Tgt rs n B y) ∧
      ((∀ q x k, NB rs n q x k → q < p + 1 → (⟨x, k⟩ : BanD) ∈ plF rs (bgF rs n true p) r S) ∨ Over B (plF rs (bgF rs n true p) r S))
  | [], done, S, he, h1, h2, h3 => by
    refine ⟨h1, h2, h3.imp (fun h q x k hN hq => h q x k hN ?_) id⟩
    by_cases e : q = p
    · exact .inr ⟨e, by have := hN.1; rw [e, he, List.append_nil] at this; exact this⟩
    · exact .inl (by omega)
  | x :: r, done, S, he, h1, h2, h3 => by
    have hxe : x ∈ bgF rs n false p := by rw [he]; simp
    unfold plF
    by_cases hg : goes rs x (bgF rs n true p) = true
    · rw [if_pos hg]
      have hS' : SrtB (bkL rs x S (bgF rs n true p)) := bkL_srt h1
      have hT : ∀ y ∈ bkL rs x S (bgF rs n true p), Tgt rs n B y := fun y hy => by
        rw [bkL_fold] at hy
        rcases fold_sub _ hy with hy | hy
        · obtain ⟨k, hk, hb, rfl⟩ := bkS_mem.1 hy
          exact .inr ⟨p, x, k, ⟨hxe, hk, hb, hg⟩, rfl⟩
        · exact h2 y hy
      have hup : ∀ y ∈ S, y ∈ bkL rs x S (bgF rs n true p) := fun y hy => by rw [bkL_fold]; exact fold_sup _ hy
      refine pl_inv hn r (done ++ [x]) _ (by rw [he]; simp) hS' hT ?_
      rcases h3 with h3 | h3
      · by_cases hl : (bkL rs x S (bgF rs n true p)).length ≤ 2000
        · left
          intro q x' k hN hq
          by_cases e : q = p ∧ x' = x
          · obtain ⟨rfl, rfl⟩ := e
            have hl' := hl
            rw [bkL_fold] at hl' ⊢
            exact fold_got _ hl' _ (bkS_mem.2 ⟨k, hN.2.1, hN.2.2.1, rfl⟩)
          · refine hup _ (h3 q x' k hN ?_)
            rcases hq with hq | ⟨rfl, hq⟩
            · exact .inl hq
            · rcases List.mem_append.1 hq with hq | hq
              · exact .inr ⟨rfl, hq⟩
              · exact absurd ⟨rfl, by simpa using hq⟩ e
        · exact .inr ⟨_, nodup_of_srt hS', by omega, fun y hy => .inl hy⟩
      · exact .inr (h3.mono fun y hy => .inl (hup y hy))
    · have hg' : goes rs x (bgF rs n true p) = false := by simpa using hg
      rw [if_neg hg]
      have hm : ∀ y, y ∈ delF x (bgF rs n true p) (bkL rs x S (bgF rs n true p)) ↔ y ∈ S ∧ ¬ (y.fr = x ∧ ∃ k ∈ bgF rs n true p, y.to = k) := fun y => by
        rw [delF_mem, bkL_fold]
        constructor
        · rintro ⟨h, hd⟩
          rcases fold_sub _ h with h | h
          · obtain ⟨k, hk, _, rfl⟩ := bkS_mem.1 h
            exact absurd ⟨rfl, k, hk, rfl⟩ hd
          · exact ⟨h, hd⟩
        · rintro ⟨h, hd⟩; exact ⟨fold_sup _ h, hd⟩
      refine ⟨delF_srt (bkL_srt h1), fun y hy => h2 y ((hm y).1 hy).1, ?_⟩
      rcases h3 with h3 | h3
      · left
        intro q x' k hN hq
        have hqp : q < p := by
          by_cases e : q = p
          · subst e; exact absurd hN (alike_ends hn hxe hg')
          · omega
        refine (hm _).2 ⟨h3 q x' k hN (.inl hqp), ?_⟩
        rintro ⟨e, _⟩
        have e : (x' : Int) = x := e
        obtain ⟨l0, e0⟩ := bgF_end hn hxe
        obtain ⟨l1, e1⟩ := bgF_end hn hN.1
        obtain rfl : x' = x := by omega
        rw [e0] at e1
        omega
      · refine .inr (h3.mono fun y hy => ?_)
        by_cases hd : y.fr = x ∧ ∃ k ∈ bgF rs n true p, y.to = k
        · right
          rcases h2 y hy with h | ⟨q, x', k', hN, rfl⟩
          · exact h
          · exfalso
            have e : (x' : Int) = x := hd.1
            obtain rfl : x' = x := by omega
            obtain ⟨l0, e0⟩ := bgF_end hn hxe
            obtain ⟨l1, e1⟩ := bgF_end hn hN.1
            rw [e0] at e1
            obtain rfl : q = p := by omega
            exact alike_ends hn hxe hg' hN
        · exact .inl ((hm y).2 ⟨hy, hd⟩)
theorem nb_inv {rs : List RoadD} {n : Nat} {B : List BanD} (hn : rs.length = n) (hB : SrtB B) : ∀ p, SrtB (nbF rs n B p) ∧ (∀ y ∈ nbF rs n B p, Tgt rs n B y) ∧ ((∀ q x k, NB rs n q x k → q < p → (⟨x, k⟩ : BanD) ∈ nbF rs n B p) ∨ Over B (nbF rs n B p))
  | 0 => ⟨hB, fun _ hy => .inl hy, .inl fun _ _ _ _ h => absurd h (Nat.not_lt_zero _)⟩
  | p + 1 => by
    obtain ⟨h1, h2, h3⟩ := nb_inv hn hB p
    exact pl_inv hn _ [] _ (by simp) h1 h2 (h3.imp (fun h q x k hN hq => h q x k hN (hq.elim id fun h => nomatch h.2)) id)
theorem ns_inv {rs : List RoadD} {n : Nat} {B : List BanD} (hn : rs.length = n) (hp : ∀ i (h : i < rs.length), 0 ≤ rs[i].to) (hB : SrtB B) : ∀ i, i ≤ n → SrtB (nsF rs n B i) ∧ (∀ y ∈ nsF rs n B i, Tgt rs n B y) ∧ ((nsF rs n B i).length ≤ 2000 → (∀ y ∈ B, y ∈ nsF rs n B i) ∧ ∀ q x k, NB rs n q x k → x < i → (⟨x, k⟩ : BanD) ∈ nsF rs n B i)
  | 0, _ => ⟨hB, fun _ hy => .inl hy, fun _ => ⟨fun _ h => h, fun _ _ _ _ h => absurd h (Nat.not_lt_zero _)⟩⟩
  | i + 1, hi => by
    obtain ⟨h1, h2, h3⟩ := ns_inv hn hp hB i (by omega)
    have hil : i < rs.length := by omega
    have hD : rs.getD i default = rs[i] := by rw [List.getD_eq_getElem?_getD, List.getElem?_eq_getElem hil]; rfl
    unfold nsF
    rw [hD]
    obtain ⟨p, hpp⟩ : ∃ p : Nat, rs[i].to = (p : Int) := ⟨rs[i].to.toNat, by have := hp i hil; omega⟩
    have hpt : (endR false rs[i]).toNat = p := by show rs[i].to.toNat = p; rw [hpp]; rfl
    rw [hpt]
    have hie : i ∈ bgF rs n false p := bgF_in hn hil hpp
    by_cases hg : goes rs i (bgF rs n true p) = true
    · rw [if_pos hg]
      refine ⟨bkL_srt h1, fun y hy => ?_, fun hl => ?_⟩
      · rw [bkL_fold] at hy
        rcases fold_sub _ hy with hy | hy
        · obtain ⟨k, hk, hb, rfl⟩ := bkS_mem.1 hy
          exact .inr ⟨p, i, k, ⟨hie, hk, hb, hg⟩, rfl⟩
        · exact h2 y hy
      · have hl0 : (nsF rs n B i).length ≤ 2000 := Nat.le_trans (len_sub (nodup_of_srt h1) fun y hy => by rw [bkL_fold]; exact fold_sup _ hy) hl
        obtain ⟨h4, h5⟩ := h3 hl0
        rw [bkL_fold] at hl ⊢
        refine ⟨fun y hy => fold_sup _ (h4 y hy), fun q x k hN hx => ?_⟩
        by_cases e : x = i
        · subst e
          obtain ⟨_, e1⟩ := bgF_end hn hN.1
          have e1 : rs[x].to = (q : Int) := e1
          obtain rfl : q = p := by omega
          exact fold_got _ hl _ (bkS_mem.2 ⟨k, hN.2.1, hN.2.2.1, rfl⟩)
        · exact fold_sup _ (h5 q x k hN (by omega))
    · rw [if_neg hg]
      refine ⟨h1, h2, fun hl => ⟨(h3 hl).1, fun q x k hN hx => ?_⟩⟩
      by_cases e : x = i
      · subst e
        obtain ⟨_, e1⟩ := bgF_end hn hN.1
        have e1 : rs[x].to = (q : Int) := e1
        obtain rfl : q = p := by omega
        exact absurd hN.2.2.2 hg
      · exact (h3 hl).2 q x k hN (by omega)

/-- Both come to the same: the same list, or too many in both. -/
theorem back_same {rs : List RoadD} {n m : Nat} {B : List BanD} (hn : rs.length = n) (hp : ∀ i (h : i < rs.length), 0 ≤ rs[i].to ∧ rs[i].to < m) (hB : SrtB B) :
    ((B.foldl capB (nbF rs n B m)).length ≤ 2000 ↔ (nsF rs n B n).length ≤ 2000) ∧ ((nsF rs n B n).length ≤ 2000 → B.foldl capB (nbF rs n B m) = nsF rs n B n) := by
  obtain ⟨i1, i2, i3⟩ := nb_inv hn hB m
  obtain ⟨s1, s2, s3⟩ := ns_inv hn (fun i h => (hp i h).1) hB n (Nat.le_refl _)
  have f1 : SrtB (B.foldl capB (nbF rs n B m)) := fold_srt _ i1
  have f2 : ∀ y ∈ B.foldl capB (nbF rs n B m), Tgt rs n B y := fun y hy => (fold_sub _ hy).elim .inl (i2 y)
  have hq : ∀ q x k, NB rs n q x k → q < m ∧ x < n := fun q x k hN => by
    obtain ⟨l, e⟩ := bgF_end hn hN.1
    have e : rs[x].to = (q : Int) := e
    have := hp x l
    omega
  have f3 : (B.foldl capB (nbF rs n B m)).length ≤ 2000 → ∀ y, Tgt rs n B y → y ∈ B.foldl capB (nbF rs n B m) := fun hl y hy => by
    rcases hy with hy | ⟨q, x, k, hN, rfl⟩
    · exact fold_got _ hl y hy
    · rcases i3 with i3 | ⟨Z, z1, z2, z3⟩
      · exact fold_sup _ (i3 q x k hN (hq q x k hN).1)
      · exfalso
        have := len_sub z1 fun y hy => (z3 y hy).elim (fun h => fold_sup B h) (fun h => fold_got B hl y h)
        omega
  have s4 : (nsF rs n B n).length ≤ 2000 → ∀ y, Tgt rs n B y → y ∈ nsF rs n B n := fun hl y hy => by
    rcases hy with hy | ⟨q, x, k, hN, rfl⟩
    · exact (s3 hl).1 y hy
    · exact (s3 hl).2 q x k hN (hq q x k hN).2
  have hIff : (B.foldl capB (nbF rs n B m)).length ≤ 2000 ↔ (nsF rs n B n).length ≤ 2000 :=
    ⟨fun hl => Nat.le_trans (len_sub (nodup_of_srt s1) fun y hy => f3 hl y (s2 y hy)) hl, fun hl => Nat.le_trans (len_sub (nodup_of_srt f1) fun y hy => s4 hl y (f2 y hy)) hl⟩
  exact ⟨hIff, fun hl => srt_eq _ _ f1 s1 fun y => ⟨fun hy => s4 hl y (f2 y hy), fun hy => f3 (hIff.2 hl) y (s2 y hy)⟩⟩
end Go.Proofs.Ytiagdabikbjbiaa
