/-
  Copies of a timetable's trips whose calls have room: capacity at least length.
-/
import Derived.Test.YtkmccjjghpnejaaCpyL
import Derived.Test.YtkmccjjghpnejaaLatM
import Derived.Deep.RegionHeld3
namespace Go.Proofs.Ytkmccjjghpnejaa
open Go.RowKit Go.Maps

theorem own_cap {w : World} {base : Nat} {e : TypeId} {q n : Nat} {a : Option Addr} {m c : Nat} {xs : List Value} (h : w.ownsRow base e q (.slice a m c) n xs) : n ≤ c := by
 rcases h.2 with ⟨_, rfl⟩ | ⟨g, cap, cur, e', _, _, h1, _⟩
 ·exact Nat.zero_le _
 ·injection e' with _ _ e3
  subst e3
  exact h1
theorem own_cap' {w : World} {base : Nat} {e : TypeId} {q n : Nat} {v : Value} {a : Option Addr} {m c : Nat} {xs : List Value} (h : w.ownsRow base e q v n xs) (hv : v = .slice a m c) : n ≤ c := by subst hv; exact own_cap h
def TrpEc : Elem TrpD := fun w b o d bs => ∃ a c, d.line.size ≤ maxLen ∧ In64 d.days ∧ w.cell? ⟨b, o, none⟩ = some (.string d.line) ∧ w.cell? ⟨b, o + 1, none⟩ = some (.int .i64 d.days) ∧
 d.calls.length ≤ maxLen ∧ w.cell? ⟨b, o + 2, none⟩ = some (.slice a d.calls.length c) ∧ CalL w a d.calls bs ∧ d.calls.length ≤ c
theorem trpEc : Stays 3 TrpEc := ⟨fun ⟨a, c, i0, i1, h0, h1, hl, h2, hT, hk⟩ hc hA => ⟨a, c, i0, i1, same_cell hc 0 (by decide) h0, same_cell hc 1 (by decide) h1, hl, same_cell hc 2 (by decide) h2, hT.alike calE hA, hk⟩,
 fun ⟨_, _, _, _, _, _, _, _, hT, _⟩ => hT.lt calE⟩
theorem TrpEc.wide {w : World} {b o : Nat} {d : TrpD} {bs : List Nat} (h : TrpEc w b o d bs) : TrpE w b o d bs := by
 obtain ⟨a, c, i0, i1, h0, h1, hl, h2, hT, _⟩ := h
 exact ⟨i0, i1, h0, h1, a, c, hl, h2, hT⟩
abbrev TrpLc := Sl 3 TrpEc
theorem TrpLc.wide {w : World} {a : Option Addr} {l : List TrpD} {bs : List Nat} (h : TrpLc w a l bs) : TrpL w a l bs := by
 rcases h with ⟨h0, h1⟩ | ⟨b, off, f, e, hb, hd, hx⟩
 ·exact .inl ⟨h0, h1⟩
 ·exact .inr ⟨b, off, f, e, hb, hd, fun i hi => (hx i hi).wide⟩

/-- append of a plain list to an empty row of the call's own. -/
theorem wpList_append_flat_cap {α : Type} {q : Nat} {E : Elem α} {G : α → Prop} {cs : α → List Value} (hF : Flat q E G cs) (hq : 0 < q) {P : Program} {w : World} {ops : Array Oper} {rest : List Oper} {o : Oper} {a : Act} {Q : Exit → Act → World → Prop} (hgd : o.guard = none) (s x : Operand) (t : TypeId)
  (ho : o.op = .call { callee := .builtin .append, args := #[s, x], argTypes := #[t, t] })
  (base : Nat) (e : TypeId) (i : TypeInfo) (z : Value) (bytes : Nat) (ht : P.underlying t = some (.slice e)) (hi : P.info? e = some i) (hz : i.zero = some z) (hsize : i.size = q) (hby : i.bytes = bytes) (hzs : z.cells.size = q)
  (v : Value) (hs : a.eval s = v) (hown : w.ownsRow base e q v 0 []) (ad : Option Addr) (n c : Nat) (l : List α) (bs : List Nat) (hx : a.eval x = .slice ad n c) (hT : Sl q E w ad l bs) (hn : l.length = n) (hm : n ≤ 1048576) (hb64 : bytes ≤ 64) (hbase : base ≤ w.heap.size)
  (h : ∀ a' c' bs' w', l.length ≤ c' → Sl q E w' a' l bs' → Mine base w' bs' → w.grownBy w' v.ownBlock → wpList P ops Q rest (a.put o.dst (.slice a' n c')) w') : wpList P ops Q (o :: rest) a w := by
 subst hn
 by_cases h0 : l.length = 0
 ·obtain ⟨a', c', e'⟩ := own_shape hown
  have hl : l = [] := List.length_eq_zero_iff.1 h0
  subst hl
  refine wpList_append_zero hgd s x t ho base e i q ht hi v 0 [] hs hown ad c hx ?_
  rw [e']
  exact h a' c' [] w (Nat.zero_le _) Sl.nil ⟨List.nodup_nil, (fun _ h => nomatch h), (fun _ h => nomatch h)⟩ (World.grownBy.refl _ _)
 ·obtain ⟨b, off, f, rfl, hb, hxx⟩ := hT.out (k := 0) (by omega)
  refine wpList_append_own w hgd s x t ho base e i z q bytes ht hi hz hsize hby hzs hq v 0 [] hs hown ⟨b, off, none⟩ l.length c (recs (csL q cs l) l.length) hx (recs_len (csL_len hF l) _) (hF.news hq hxx) (hF.ones l) (by unfold maxLen; omega) (by
   rw [Nat.zero_add]
   exact Nat.le_trans (Nat.mul_le_mul hm hb64) (by decide)) hbase ?_
  intro v' w' hown' hgrow _
  rw [Nat.zero_add, List.nil_append] at hown'
  have hcp := fun a' m' c' (e : v' = .slice a' m' c') => own_cap' hown' e
  obtain ⟨a', c', bs', rfl, HS, HM⟩ := hF.out hown' (fun i hi => (hF.get (hxx i hi)).1)
  exact h a' c' bs' w' (hcp _ _ _ rfl) HS HM hgrow

set_option maxHeartbeats 1000000 in
theorem freshCal_cap (a : Option Addr) (n c : Nat) (l : List CalD) (bs : List Nat) (W0 w : World) (h0W : Bel W0 w) (hT : CalL w a l bs) (hn : l.length = n) (hm : n ≤ 1048576) :
  Calls Try.prog 99 #[.slice a n c] w fun e w' => ∃ a' c' bs', e = .returned (.slice a' n c') ∧ CalL w' a' l bs' ∧ n ≤ c' ∧ Fresh w w' bs' ∧ Bel W0 w' ∧ Bel w w' := by
 obtain ⟨i0, hi0, hz0, hz1, hz2⟩ := info_parts infoLCal
 have hown0 : w.ownsRow w.heap.size 108 3 (.slice none 0 0) 0 [] := World.ownsRow_nil _ _ _ _
 go_enter Try.func99, Try.ntmps99
 go_wp2_with (first
  | (at_builtin; refine wpList_append_flat_cap calF (by decide) rfl _ _ 90 rfl w.heap.size 108 i0 (.agg #[.int .i64 0, .int .i64 0, .int .i64 0]) 24 Try.underlying90 hi0 hz0 hz1 hz2 rfl _ rfl hown0 a n c l bs rfl hT hn hm (by decide) (Nat.le_refl _) ?_)
  | go_in)
 intro a' c' bs' w3 hcap HS HM hgrow
 have hB : Bel w w3 := bel_grow (Bel.refl _) hgrow (fun j e => by cases e)
 clear hgrow
 go_wp2
 go_ret
 exact ⟨_, _, bs', rfl, HS, hcap, HM.fresh (Nat.le_refl _), bel_step h0W hB, hB⟩


set_option maxRecDepth 100000 in
set_option maxHeartbeats 2000000 in
theorem tripTold_cap (s : ByteArray) (x : Int) (a : Option Addr) (n c : Nat) (l : List CalD) (bs : List Nat) (W0 w : World) (h0W : Bel W0 w) (hT : CalL w a l bs) (hn : l.length = n) (hm : n ≤ 1048576) :
  Calls Try.prog 69 #[.agg #[.string s, .int .i64 x, .slice a n c]] w fun e w' => ∃ a' c' bs', e = .returned (.agg #[.string s, .int .i64 x, .slice a' n c']) ∧ CalL w' a' l bs' ∧ n ≤ c' ∧ Fresh W0 w' bs' ∧ Bel w w' := by
 obtain ⟨W1, HW1⟩ : ∃ W, Hid (W = w.alloc (.cells #[.string s, .int .i64 x, .slice a n c] 92)) := ⟨_, (rfl : w.alloc (.cells #[.string s, .int .i64 x, .slice a n c] 92) = _)⟩
 have hB1 : Bel w W1 := by rw [HW1.out]; exact bel_alloc (Bel.refl _) _
 have hs1 : W1.heap.size = w.heap.size + 1 := by rw [HW1.out]; simp
 have X1 : Blk W1 w.heap.size [.string s, .int .i64 x, .slice a n c] := by rw [HW1.out]; exact Blk.new w [.string s, .int .i64 x, .slice a n c] _
 obtain ⟨W2, HW2⟩ : ∃ W, Hid (W = W1.alloc (.cells #[.string ⟨#[]⟩, .int .i64 0, .slice none 0 0] 92)) := ⟨_, (rfl : W1.alloc (.cells #[.string ⟨#[]⟩, .int .i64 0, .slice none 0 0] 92) = _)⟩
 have hB2 : Bel W1 W2 := by rw [HW2.out]; exact bel_alloc (Bel.refl _) _
 have hs2 : W2.heap.size = w.heap.size + 1 + 1 := by rw [HW2.out]; simp [hs1]
 have X2 : Blk W2 (w.heap.size + 1) [.string ⟨#[]⟩, .int .i64 0, .slice none 0 0] := by rw [HW2.out, ← hs1]; exact Blk.new W1 [.string ⟨#[]⟩, .int .i64 0, .slice none 0 0] _
 have g0 : So W1 (w.heap.size + 1) 3 W2 := ⟨hB2, _, rfl, X2⟩
 have hR : ∀ w', So W1 (w.heap.size + 1) 3 w' → w'.cell? ⟨w.heap.size, 0, none⟩ = some (.string s) ∧ w'.cell? ⟨w.heap.size, 1, none⟩ = some (.int .i64 x) ∧ w'.cell? ⟨w.heap.size, 2, none⟩ = some (.slice a n c) ∧ w'.frozen? ⟨w.heap.size + 1, 0, none⟩ = false ∧ w'.frozen? ⟨w.heap.size + 1, 1, none⟩ = false ∧ w'.frozen? ⟨w.heap.size + 1, 2, none⟩ = false :=
  fun w' h => by obtain ⟨vs, _, r⟩ := h.r; exact ⟨(X1.bel h.b).cell 0 (by simp), (X1.bel h.b).cell 1 (by simp), (X1.bel h.b).cell 2 (by simp), r.free _, r.free _, r.free _⟩
 have hT1 : ∀ w', So W1 (w.heap.size + 1) 3 w' → CalL w' a l bs := fun w' h => (hT.bel calE hB1).bel calE h.b
 have hle : W1.heap.size ≤ w.heap.size + 1 := Nat.le_of_eq hs1
 have HNo : Hid (∀ b5 w5, Fresh W2 w5 b5 → w.heap.size + 1 ∉ b5) := fun b5 w5 F hx => by have := (F.new _ hx).1; omega
 clear hT X1 X2
 go_enter Try.func69, Try.ntmps69
 go_wp2
 rw [← HW1.out, ← HW2.out]
 go_region_held3 (fun w' => So W1 (w.heap.size + 1) 3 w') (with_reducible (repeat (first | assumption | exact g0 | refine So.drew ?_ | refine So.set ?_ hle _ (by decide) _ | refine So.bel (by assumption) (by assumption))))
  (first
   | (go_at_call 99; refine (freshCal_cap _ _ _ l bs W2 _ (by with_reducible (repeat (first | exact Bel.refl _ | refine Bel.drew ?_))) (hT1 _ (by assumption)) hn hm).mono ?_; rintro e w5 ⟨a5, c5, b5, rfl, T5, hcap, F5, _, hb5⟩; obtain ⟨vs5, len5, R5⟩ := (So.bel (W := W1) (B := w.heap.size + 1) (n := 3) (by assumption) hb5).r; have c0 : w5.cell? ⟨w.heap.size + 1, 0, none⟩ = some vs5[0] := R5.cell 0 (by omega); have c1 : w5.cell? ⟨w.heap.size + 1, 1, none⟩ = some vs5[1] := R5.cell 1 (by omega); have c2 : w5.cell? ⟨w.heap.size + 1, 2, none⟩ = some vs5[2] := R5.cell 2 (by omega)))
 have F5 := F5.old (v := W2) (by with_reducible (first | exact Nat.le_refl _ | exact (Bel.drew (Bel.refl _)).out.size))
 have hF : So W1 (w.heap.size + 1) 3 (setRow w5 (w.heap.size + 1) 0 [.string s, .int .i64 x, .slice a5 n c5]) := by assumption
 have hAl : Alike w5 (setRow w5 (w.heap.size + 1) 0 [.string s, .int .i64 x, .slice a5 n c5]) b5 := setRow_far _ (T5.lt calE) (HNo.out _ _ F5)
 have HT : Hid (CalL (setRow w5 (w.heap.size + 1) 0 [.string s, .int .i64 x, .slice a5 n c5]) a5 l b5) := T5.alike calE hAl
 have HF : Hid (Fresh W0 (setRow w5 (w.heap.size + 1) 0 [.string s, .int .i64 x, .slice a5 n c5]) b5) := (F5.alike hAl).old (Nat.le_trans h0W.out.size (by omega))
 have hB : Bel w (setRow w5 (w.heap.size + 1) 0 [.string s, .int .i64 x, .slice a5 n c5]) := bel_step hB1 hF.b
 clear T5 F5 hb5 hAl hF hR hT1 g0 R5
 go_wp2
 exact bodyPost_ret (v := .agg #[.string s, .int .i64 x, .slice a5 n c5]) (by simp [results, Try.results69, go_sem, c0, c1, c2]) rfl ⟨_, _, b5, rfl, HT.out, hcap, HF.out, hB⟩



def TrpVc : VElem TrpD := fun w vs d bs => ∃ a c, d.line.size ≤ maxLen ∧ In64 d.days ∧ d.calls.length ≤ maxLen ∧ vs = [.string d.line, .int .i64 d.days, .slice a d.calls.length c] ∧ CalL w a d.calls bs ∧ d.calls.length ≤ c
theorem trpVc : VStays 3 TrpEc TrpVc :=
 ⟨fun ⟨a, c, _, _, _, e, _⟩ => by rw [e]; rfl, fun ⟨a, c, _, _, _, e, _⟩ u hu => by
   subst e; simp only [List.mem_cons, List.not_mem_nil, or_false] at hu; rcases hu with rfl | rfl | rfl <;> rfl,
  fun ⟨a, c, h2, h3, h4, e, h5, h6⟩ hA => ⟨a, c, h2, h3, h4, e, h5.alike calE hA, h6⟩, fun ⟨a, c, _, _, _, e, h5, _⟩ => h5.lt calE,
  fun ⟨a, c, h2, h3, h4, e, h5, h6⟩ hc => by subst e; exact ⟨a, c, h2, h3, hc 0 (by simp), hc 1 (by simp), h4, hc 2 (by simp), h5, h6⟩⟩

set_option maxRecDepth 100000 in
set_option maxHeartbeats 2000000 in
theorem eachTrp_cap (a : Option Addr) (n c : Nat) (l : List TrpD) (bs : List Nat) (W0 w : World) (h0W : Bel W0 w) (hT : TrpL w a l bs) (hn : l.length = n) (hm : n ≤ 1048576) (hs : ∀ i (h : i < l.length), l[i].calls.length ≤ 1048576) :
  Calls Try.prog 68 #[.slice a n c, .func (.func 69) #[] #[]] w fun e w' => ∃ a' c' bs', e = .returned (.slice a' n c') ∧ TrpLc w' a' l bs' ∧ Fresh w w' bs' ∧ Bel W0 w' ∧ Bel w w' := by
 obtain ⟨i0, hi0, hz0, hz1, hz2⟩ := info_parts infoTrp
 have Hn : Hid (l.length = n) := hn
 have HS : Hid (∀ i (h : i < l.length), l[i].calls.length ≤ 1048576) := hs
 clear hn hs
 go_enter Try.func68, Try.ntmps68
 go_wp2
 go_loopw [5, 7, 10] (fun o _ i wr => ∃ (k : Nat) (R : Nat → List Value) (f : Nat → List Nat), k ≤ n ∧ i = .int .i64 k ∧ Gr 3 TrpVc 92 w.heap.size wr o (trT l k) R f ∧ Bel w wr) (fun _ _ i _ => n - (intOf i).toNat)
 case atStart => exact ⟨0, _, _, Nat.zero_le _, rfl, Gr.nil 3 TrpVc 92 _ _, Bel.refl _⟩
 case round =>
  obtain ⟨k, R, f0, hk, rfl, hG, hBr⟩ := hrel
  obtain ⟨va, vc, rfl⟩ := own_shape hG.own
  have HLK : Hid ((trT l k).length = k) := trT_len (by rw [Hn.out]; exact hk)
  have HG : Hid (Gr 3 TrpVc 92 w.heap.size wr (.slice va (trT l k).length vc) (trT l k) R f0) := hG
  clear hG
  by_cases hlt : k < n
  ·have hkl : k < l.length := by rw [Hn.out]; exact hlt
   obtain ⟨b, off, f, rfl, hb, hx⟩ := (hT.bel trpE hBr).out hkl
   obtain ⟨z0, z1, c0, c1, a0, k0, ml, c2, t0⟩ := hx k hkl
   have HE : Hid (trT l (k + 1) = trT l k ++ [l[k]]) := trT_succ hkl
   have hr1 := HS.out k hkl
   obtain ⟨d, Hd⟩ : ∃ d, Hid (l[k] = d) := ⟨_, (rfl : l[k] = _)⟩
   rw [Hd.out] at HE ml c0 c1 c2 t0 hr1 z0 z1
   have hlt' : (k : Int) < (n : Int) := by omega
   have t1 := t0.bel calE (bel_alloc (Bel.refl wr) (.cells #[.string d.line, .int .i64 d.days, .slice a0 d.calls.length k0] 92))
   have hV1 := bel_alloc (Bel.refl wr) (.cells #[.string d.line, .int .i64 d.days, .slice a0 d.calls.length k0] 92)
   clear hx
   go_wp2_with fail
   refine (tripTold_cap _ _ _ _ _ d.calls _ _ _ (Bel.refl _) t1 rfl hr1).mono ?_
   rintro e w4 ⟨a4, c4, b4, rfl, T4, hcap, F4, hb4⟩
   have h04 : Bel wr w4 := bel_step hV1 hb4
   have F04 : Fresh wr w4 b4 := F4.old hV1.out.size
   have HV : Hid (TrpVc w4 [.string d.line, .int .i64 d.days, .slice a4 d.calls.length c4] d b4) := (⟨a4, c4, z0, z1, ml, rfl, T4, hcap⟩ : TrpVc w4 _ d b4)
   have hown2 := World.ownsRow.alloc (own_bel HG.out.own h04) (.cells #[.string d.line, .int .i64 d.days, .slice a4 d.calls.length c4] 92)
   have hBa := bel_alloc (bel_step hBr h04) (.cells #[.string d.line, .int .i64 d.days, .slice a4 d.calls.length c4] 92)
   have hB4 := bel_step hBr h04
   clear t0 t1 T4 F4 hb4 c0 c1 c2 hV1
   go_wp2_with (first
    | (at_builtin; refine wpList_append_lies _ rfl _ _ 46 rfl w.heap.size 92 i0 (.agg #[.string ⟨#[]⟩, .int .i64 0, .slice none 0 0]) 3 48 Try.underlying46 hi0 hz0 hz1 hz2 rfl (by decide) _ _ _ rfl hown2 ⟨w4.heap.size, 0, none⟩ 1 1 [.string d.line, .int .i64 d.days, .slice a4 d.calls.length c4] rfl rfl ?c1 ?c2 (by decide) ?c3 ?c4 ?c5 (w4.heap.size + 1) ?c6 ?_)
    | go_in)
   case c1 =>
    intro j u hj
    match j, hj with
    | 0, hj => simp at hj; subst hj; simp [Addr.add]
    | 1, hj => simp at hj; subst hj; simp [Addr.add]
    | 2, hj => simp at hj; subst hj; simp [Addr.add]
   case c2 =>
    intro u hu
    simp at hu
    rcases hu with rfl | rfl | rfl <;> rfl
   case c3 => have := HLK.out; unfold maxLen; omega
   case c4 => have := HLK.out; omega
   case c5 => have := hB4.out.size; simp; omega
   case c6 => simp
   intro g cap w5 hown' hgrow hat _
   have HG5 : Hid (∃ R' f', Gr 3 TrpVc 92 w.heap.size w5 (.slice (some ⟨g, 0, none⟩) ((trT l k).length + 1) cap) (trT l (k + 1)) R' f') := by
    have hat' : (Value.slice va (trT l k).length vc).ownBlock = some g ∨ g = (w4.alloc (.cells #[.string d.line, .int .i64 d.days, .slice a4 d.calls.length c4] 92)).heap.size := by simpa using hat
    have := Gr.add trpVc HG.out h04 (bel_alloc (Bel.refl w4) (.cells #[.string d.line, .int .i64 d.days, .slice a4 d.calls.length c4] 92)) HV.out F04 hBr.out.size hown' hgrow (hatL hat')
    rw [HE.out]
    exact ⟨_, _, this⟩
   have hB5 : Bel w w5 := bel_grow hBa hgrow (fun j e => (hown2.lt j e).1)
   clear hown' hgrow hown2 hBa HG hat HV F04 h04 hB4
   go_wp2
   go_roundw
   case rel =>
    obtain ⟨R', f', G'⟩ := HG5.out
    exact ⟨k + 1, R', f', by omega, by go_num, G', hB5⟩
   case measure => simp [intOf]; omega
  ·have e : n = k := by omega
   subst e
   have HO := Gr.out trpVc HG.out
   have HT : Hid (trT l n = l) := trT_all (by rw [Hn.out]; exact Nat.le_refl _)
   rw [HLK.out]
   obtain ⟨a', c', bs', e', hS, hM⟩ := HO
   rw [HLK.out] at e'
   obtain ⟨rfl, rfl⟩ : va = a' ∧ vc = c' := by simpa using e'
   have HS2 : Hid (TrpLc wr va l bs') := by rw [HT.out] at hS; exact hS
   have hF := hM.fresh (w := w) (Nat.le_refl _)
   clear hS e' HG hM
   go_wp2
   go_ret
   exact ⟨_, _, bs', rfl, HS2.out, hF, bel_step h0W hBr, hBr⟩

/-- A timetable that was copied: its struct in a block of its own, its lists in others. -/
structure CutLc (V : World) (g : LinesD) (n0 n1 n2 : Nat) (t : Value) (w : World) : Prop where
 out : ∃ (B : Nat) (p0 : Option Addr) (q0 : Nat) (p1 : Option Addr) (q1 : Nat) (p2 : Option Addr) (q2 : Nat) (d0 d1 d2 : List Nat), t = .pointer (some ⟨B, 0, none⟩) ∧ V.heap.size ≤ B ∧ Blk w B [.slice p0 n0 q0, .slice p1 n1 q1, .slice p2 n2 q2] ∧
  StrL w p0 g.stops d0 ∧ TrpLc w p1 g.trips d1 ∧ WlkL w p2 g.walks d2 ∧ Fresh V w (d0 ++ (d1 ++ d2)) ∧ B ∉ d0 ++ (d1 ++ d2) ∧ Bel V w
theorem CutLc.put {V w1 w2 w3 : World} {g : LinesD} {n0 n1 n2 B : Nat} {p0 p1 p2 : Option Addr} {q0 q1 q2 : Nat} {d0 d1 d2 : List Nat} (h : NtL V w3 B ((d0 ++ d1) ++ d2)) (T1 : StrL w1 p0 g.stops d0) (F1 : Fresh V w1 d0) (B1 : Bel V w1) (T2 : TrpLc w2 p1 g.trips d1) (F2 : Fresh w1 w2 d1) (B2 : Bel w1 w2) (T3 : WlkL w3 p2 g.walks d2) (F3 : Fresh w2 w3 d2) (B3 : Bel w2 w3) :
  CutLc V g n0 n1 n2 (.pointer (some ⟨B, 0, none⟩)) (((w3.setCell ⟨B, 0, none⟩ (.slice p0 n0 q0)).setCell ⟨B, 1, none⟩ (.slice p1 n1 q1)).setCell ⟨B, 2, none⟩ (.slice p2 n2 q2)) := by
 have hx := h.x
 have hoff : B ∉ d0 ++ (d1 ++ d2) := by have := h.off; rwa [List.append_assoc] at this
 have h0 : B ∉ d0 := fun hh => hoff (List.mem_append.2 (.inl hh))
 have h1 : B ∉ d1 := fun hh => hoff (List.mem_append.2 (.inr (List.mem_append.2 (.inl hh))))
 have h2 : B ∉ d2 := fun hh => hoff (List.mem_append.2 (.inr (List.mem_append.2 (.inr hh))))
 have S0 := (T1.bel strE B2).bel strE B3
 have S1 := T2.bel trpEc B3
 have al : ∀ ds : List Nat, B ∉ ds → (∀ x ∈ ds, x < w3.heap.size) → Alike w3 (((w3.setCell ⟨B, 0, none⟩ (.slice p0 n0 q0)).setCell ⟨B, 1, none⟩ (.slice p1 n1 q1)).setCell ⟨B, 2, none⟩ (.slice p2 n2 q2)) ds :=
  fun ds hd hl => (((Alike.refl hl).set hd _ _).set hd _ _).set hd _ _
 have hF := freshL3 F1 B1 F2 B2 F3 B3
 refine ⟨B, p0, q0, p1, q1, p2, q2, d0, d1, d2, rfl, h.lo, ((hx.set 0 _ (by simp)).set 1 _ (by simp)).set 2 _ (by simp), S0.alike strE (al d0 h0 (S0.lt strE)), S1.alike trpEc (al d1 h1 (S1.lt trpEc)), T3.alike wlkE (al d2 h2 (T3.lt wlkE)), ?_, hoff, bel_set (bel_set (bel_set (bel_step B1 (bel_step B2 B3)) h.lo _) h.lo _) h.lo _⟩
 exact ⟨hF.nd, fun b hb => ⟨(hF.new b hb).1, by simpa [World.setCell] using (hF.new b hb).2⟩, fun b hb j => by rw [World.frozen?_setCell, World.frozen?_setCell, World.frozen?_setCell]; exact hF.free b hb j⟩
theorem CutLc.fresh {V w1 w2 w3 : World} {g : LinesD} {n0 n1 n2 : Nat} {p0 p1 p2 : Option Addr} {q0 q1 q2 : Nat} {d0 d1 d2 : List Nat} {t : TypeId} (T1 : StrL w1 p0 g.stops d0) (F1 : Fresh V w1 d0) (B1 : Bel V w1) (T2 : TrpLc w2 p1 g.trips d1) (F2 : Fresh w1 w2 d1) (B2 : Bel w1 w2) (T3 : WlkL w3 p2 g.walks d2) (F3 : Fresh w2 w3 d2) (B3 : Bel w2 w3) :
  CutLc V g n0 n1 n2 (.pointer (some ⟨w3.heap.size, 0, none⟩)) (w3.alloc (.cells #[.slice p0 n0 q0, .slice p1 n1 q1, .slice p2 n2 q2] t)) := by
 have hF := freshL3 F1 B1 F2 B2 F3 B3
 have hA : Bel w3 (w3.alloc (.cells #[.slice p0 n0 q0, .slice p1 n1 q1, .slice p2 n2 q2] t)) := bel_alloc (Bel.refl _) _
 have hV3 := bel_step B1 (bel_step B2 B3)
 exact ⟨w3.heap.size, p0, q0, p1, q1, p2, q2, d0, d1, d2, rfl, hV3.out.size, Blk.new w3 [.slice p0 n0 q0, .slice p1 n1 q1, .slice p2 n2 q2] t, ((T1.bel strE B2).bel strE B3).bel strE hA, (T2.bel trpEc B3).bel trpEc hA, T3.bel wlkE hA, hF.bel hA, fun hm => absurd (hF.new _ hm).2 (Nat.lt_irrefl _), bel_step hV3 hA⟩


end Go.Proofs.Ytkmccjjghpnejaa
