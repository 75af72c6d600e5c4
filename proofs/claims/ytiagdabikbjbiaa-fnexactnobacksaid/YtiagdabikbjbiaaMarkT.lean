/-
  Marks: the text of a mark, told exactly; a list of numbers marked and held: contracts.
-/
import Derived.Test.YtiagdabikbjbiaaXB
import Derived.Laws.BytesString
import Derived.Laws.Concat
namespace Go.Proofs.Ytiagdabikbjbiaa
open Go.RowKit Go.Maps

/-- One digit as a text. -/
def digT (d : Int) : ByteArray := ByteArray.empty.push (UInt8.ofNat d.toNat)
theorem digT_size (d : Int) : (digT d).size = 1 := rfl
/-- The digits of k ahead of what is there. -/
def mtx (k : Nat) (out : ByteArray) : ByteArray := if _h : 0 < k then mtx (k / 10) (digT (48 + (k : Int) % 10) ++ out) else out
termination_by k
decreasing_by omega
theorem mtx_zero (out : ByteArray) : mtx 0 out = out := by rw [mtx]; simp
theorem mtx_step {k : Nat} (h : 0 < k) (out : ByteArray) : mtx k out = mtx (k / 10) (digT (48 + (k : Int) % 10) ++ out) := by rw [mtx]; simp [h]
/-- The text of a mark. -/
def mT (k : Nat) : ByteArray := ⟨#[109]⟩ ++ mtx k ⟨#[]⟩

theorem conv_one (d : Int) (w : World) : (convert 122 9 (.slice (some ⟨w.heap.size, 0, none⟩) 1 1)).run Try.prog (w.alloc (.cells #[.int .u8 d] 5)) = .ok (.string (digT d)) (w.alloc (.cells #[.int .u8 d] 5)) := by
  rw [run_convert_bytes_string _ _ _ _ _ _ _ Try.underlying122 Try.underlying5 Try.underlying9]
  rw [run_bytesToString _ _ _ _ [d] (by simp [go_sem])]
  rfl

set_option maxRecDepth 100000 in
set_option maxHeartbeats 1000000 in
theorem markText_any (k : Nat) (w : World) (h0 : 0 < k) (h1 : k ≤ 4503599627370496) :
    Calls Try.prog 65 #[.int .i64 k] w fun e w' => e = .returned (.string (mT k)) ∧ Bel w w' := by
  have hcv := conv_one
  go_enter Try.func65, Try.ntmps65
  go_wp2
  go_loopw [0, 3] (fun a s wr => ∃ (j : Nat) (out : ByteArray), a = .int .i64 j ∧ s = .string out ∧ out.size + j ≤ k ∧ Hid (mtx j out = mtx k ⟨#[]⟩) ∧ Bel w wr) (fun a _ _ => (intOf a).toNat)
  case atStart => exact ⟨k, ⟨#[]⟩, rfl, rfl, by show 0 + k ≤ k; omega, (rfl : mtx k ⟨#[]⟩ = _), Bel.refl _⟩
  case round =>
    obtain ⟨j, out, rfl, rfl, hsz, HM, hbel⟩ := hrel
    by_cases hj : 0 < j
    · have hj' : (0 : Int) < (j : Int) := by omega
      have hw : IntKind.u8.wrap (48 + (j : Int) % 10) = 48 + (j : Int) % 10 := by simp [IntKind.wrap, IntKind.signed, IntKind.bits]; omega
      have HS : Hid (mtx j out = mtx (j / 10) (digT (48 + (j : Int) % 10) ++ out)) := mtx_step hj out
      have hd := digT_size (48 + (j : Int) % 10)
      have hdz : ((digT (48 + (j : Int) % 10)).size : Int) ≤ 8388608 := by rw [hd]; decide
      have hsum : (digT (48 + (j : Int) % 10)).size + out.size ≤ 9223372036854775807 := by rw [hd]; omega
      have hadd := fun w => run_string_add_sum (P := Try.prog) w (digT (48 + (j : Int) % 10)) out hsum
      go_wp2
      go_roundw
      case rel => exact ⟨j / 10, digT (48 + (j : Int) % 10) ++ out, by go_num, rfl, by rw [ByteArray.size_append, hd]; omega, (by rw [← HS.out]; exact HM.out : mtx (j / 10) (digT (48 + (j : Int) % 10) ++ out) = mtx k ⟨#[]⟩), bel_alloc hbel _⟩
      case measure => simp [intOf]; omega
    · obtain rfl : j = 0 := by omega
      have HE : Hid (out = mtx k ⟨#[]⟩) := (by rw [← HM.out, mtx_zero] : out = mtx k ⟨#[]⟩)
      have hsum : (ByteArray.mk #[109]).size + out.size ≤ 9223372036854775807 := by show 1 + out.size ≤ _; omega
      have hadd := fun w => run_string_add_sum (P := Try.prog) w ⟨#[109]⟩ out hsum
      go_wp2
      go_ret
      exact ⟨congrArg (fun s => Ending.returned (.string s)) (by unfold mT; rw [← HE.out]), hbel⟩

/-- All but these blocks is as it was. -/
structure Onl (bs : List Nat) (w w' : World) : Prop where
  os : w'.os = w.os
  tape : w'.tape = w.tape
  output : w'.output = w.output
  size : w.heap.size ≤ w'.heap.size
  block : ∀ i, i < w.heap.size → i ∉ bs → w'.heap[i]? = w.heap[i]?
theorem Onl.refl (bs : List Nat) (w : World) : Onl bs w w := ⟨rfl, rfl, rfl, Nat.le_refl _, fun _ _ _ => rfl⟩
theorem Onl.trans {bs : List Nat} {w w1 w2 : World} (h : Onl bs w w1) (k : Onl bs w1 w2) : Onl bs w w2 :=
  ⟨k.os.trans h.os, k.tape.trans h.tape, k.output.trans h.output, Nat.le_trans h.size k.size, fun i hi hn => by rw [k.block i (Nat.lt_of_lt_of_le hi h.size) hn, h.block i hi hn]⟩
theorem Onl.mono {bs cs : List Nat} {w w' : World} (h : Onl bs w w') (hs : ∀ x ∈ bs, x ∈ cs) : Onl cs w w' := ⟨h.os, h.tape, h.output, h.size, fun i hi hn => h.block i hi fun hm => hn (hs i hm)⟩
theorem Onl.bel {bs : List Nat} {w w1 w2 : World} (h : Onl bs w w1) (k : Bel w1 w2) : Onl bs w w2 := h.trans ⟨k.out.os, k.out.tape, k.out.output, k.out.size, fun i hi _ => k.out.block i hi⟩
theorem Onl.set {bs : List Nat} {w w1 : World} (h : Onl bs w w1) {b : Nat} (hb : b ∈ bs) (o : Nat) (v : Value) : Onl bs w (w1.setCell ⟨b, o, none⟩ v) :=
  h.trans ⟨rfl, rfl, rfl, by simp [World.setCell], fun i _ hn => Below.heap_setCell w1 ⟨b, o, none⟩ v i (fun e => hn (by rw [e]; exact hb))⟩
theorem Onl.alike {bs cs : List Nat} {w w' : World} (h : Onl bs w w') (hl : ∀ x ∈ cs, x < w.heap.size) (hd : ∀ x ∈ cs, x ∉ bs) : Alike w w' cs := fun b hb => by
  have e := h.block b (hl b hb) (hd b hb)
  exact ⟨Nat.lt_of_lt_of_le (hl b hb) h.size, fun o => World.cell?_of_block (a := ⟨b, o, none⟩) e, fun o => World.frozen?_of_block (a := ⟨b, o, none⟩) e⟩
theorem Onl.to_bel {bs : List Nat} {v w w' : World} (h : Bel v w) (k : Onl bs w w') (hn : ∀ x ∈ bs, v.heap.size ≤ x) : Bel v w' :=
  h.trans ⟨k.os, k.tape, k.output, k.size, fun i hi => k.block i (Nat.lt_of_lt_of_le hi h.out.size) fun hm => absurd (hn i hm) (Nat.not_le.2 hi)⟩

/-- n elements beside each other. -/
def Fam {α : Type} (q : Nat) (E : Elem α) (w : World) (b off n : Nat) (D : Nat → α) (f : Nat → List Nat) : Prop := ∀ i, i < n → E w b (off + i * q) (D i) (f i)
theorem Fam.step {α : Type} {q : Nat} {E : Elem α} (hE : Stays q E) {w w' : World} {b off n : Nat} {D : Nat → α} {f : Nat → List Nat} (h : Fam q E w b off n D f) {j : Nat} (d : α)
    (hc : ∀ o, o < off + j * q ∨ off + j * q + q ≤ o → w'.cell? ⟨b, o, none⟩ = w.cell? ⟨b, o, none⟩) (ha : ∀ i, i < n → i ≠ j → Alike w w' (f i)) (hn : E w' b (off + j * q) d (f j)) : Fam q E w' b off n (fun i => if i = j then d else D i) f := by
  intro i hi
  by_cases e : i = j
  · subst e; simpa using hn
  · simp only [if_neg e]
    refine hE.alike (h i hi) (fun x hx => hc _ ?_) (ha i hi e)
    rcases Nat.lt_or_gt_of_ne e with h1 | h1
    · have := Nat.mul_le_mul_right q (show i + 1 ≤ j by omega)
      rw [Nat.add_mul, Nat.one_mul] at this
      omega
    · have := Nat.mul_le_mul_right q (show j + 1 ≤ i by omega)
      rw [Nat.add_mul, Nat.one_mul] at this
      omega
/-- The first j as D1, the others as D0. -/
def upto {α : Type} (j : Nat) (D1 D0 : Nat → α) (i : Nat) : α := if i < j then D1 i else D0 i
theorem upto_step {α : Type} (j : Nat) (D1 D0 : Nat → α) : (fun i => if i = j then D1 j else upto j D1 D0 i) = upto (j + 1) D1 D0 := by
  funext i
  unfold upto
  by_cases e : i = j
  · subst e; simp
  · by_cases h : i < j
    · simp [e, h, show i < j + 1 by omega]
    · simp [e, h, show ¬ i < j + 1 by omega]
theorem upto_zero {α : Type} (D1 D0 : Nat → α) : upto 0 D1 D0 = D0 := by funext i; simp [upto]

theorem Sl.fam {α : Type} {q : Nat} {E : Elem α} {w : World} {b off : Nat} {l : List α} {n : Nat} {D : Nat → α} {f : Nat → List Nat} (h : Fam q E w b off n D f) (hb : b < w.heap.size) (hl : l.length = n) (hD : ∀ i (h : i < l.length), D i = l[i]) :
    Sl q E w (some ⟨b, off, none⟩) l (b :: (List.range n).flatMap f) :=
  .inr ⟨b, off, f, rfl, hb, by rw [hl], fun i hi => by rw [← hD i hi]; exact h i (by omega)⟩

/-- The numbers k, k + 1 and so on. -/
def mkInts (k : Nat) (l : List Int) : List Int := (List.range l.length).map fun i => ((k + i : Nat) : Int)
theorem mkInts_len (k : Nat) (l : List Int) : (mkInts k l).length = l.length := by simp [mkInts]

set_option maxRecDepth 100000 in
set_option maxHeartbeats 1000000 in
theorem markInt64S_any (a : Option Addr) (n c : Nat) (l : List Int) (bs : List Nat) (k : Nat) (w : World) (hT : Ints w a l bs) (hf : ∀ x ∈ bs, ∀ j, w.frozen? ⟨x, j, none⟩ = false) (hn : l.length = n) (hm : n ≤ 1048576) (hk : k ≤ 1125899906842624) :
    Calls Try.prog 40 #[.slice a n c, .int .i64 k] w fun e w' => e = .returned (.int .i64 ((k + n : Nat) : Int)) ∧ Ints w' a (mkInts k l) bs ∧ (∀ x ∈ bs, ∀ j, w'.frozen? ⟨x, j, none⟩ = false) ∧ Onl bs w w' := by
  by_cases h0 : n = 0
  · subst h0
    obtain rfl : l = [] := List.length_eq_zero_iff.1 hn
    have HT : Hid (Ints w a (mkInts k []) bs) := hT
    clear hT
    go_enter Try.func40, Try.ntmps40
    go_wp2
    go_loopw [1, 5] (fun t i wr => t = .int .i64 k ∧ i = .int .i64 0 ∧ wr = w) (fun _ _ _ => 0)
    case atStart => exact ⟨rfl, rfl, rfl⟩
    case round =>
      obtain ⟨rfl, rfl, rfl⟩ := hrel
      go_wp2
      go_ret
      exact ⟨by simp, HT.out, hf, Onl.refl _ _⟩
  · rcases hT with ⟨rfl, _⟩ | ⟨b, off, f, rfl, hb, rfl, hx⟩
    · exact absurd hn.symm h0
    · have hfam : Fam 1 IntE w b off n (fun i => l.getD i 0) f := fun i hi => by
        show IntE w b (off + i * 1) (l.getD i 0) (f i)
        rw [getD_at 0 (show i < l.length by omega)]
        exact hx i (by omega)
      have hbf : ∀ j, w.frozen? ⟨b, j, none⟩ = false := hf b (by simp)
      have Hn : Hid (l.length = n) := hn
      have HF : Hid (∀ x ∈ b :: (List.range l.length).flatMap f, ∀ j, w.frozen? ⟨x, j, none⟩ = false) := hf
      have hfe : ∀ i, i < n → f i = [] := fun i hi => (hfam i hi).1
      clear hn hx hf
      go_enter Try.func40, Try.ntmps40
      go_wp2
      go_loopw [1, 5] (fun t i wr => ∃ j : Nat, j ≤ n ∧ i = .int .i64 j ∧ t = .int .i64 ((k + j : Nat) : Int) ∧ Fam 1 IntE wr b off n (upto j (fun i => ((k + i : Nat) : Int)) (fun i => l.getD i 0)) f ∧ (∀ x, wr.frozen? ⟨b, x, none⟩ = false) ∧ Onl [b] w wr) (fun _ i _ => n - (intOf i).toNat)
      case atStart => exact ⟨0, Nat.zero_le _, rfl, by simp, by rw [upto_zero]; exact hfam, hbf, Onl.refl _ _⟩
      case round =>
        obtain ⟨j, hj, rfl, rfl, hF, hfr, hO⟩ := hrel
        by_cases hlt : j < n
        · obtain ⟨_, _, cx⟩ := hF j hlt
          simp only [Nat.mul_one] at cx
          have f0 := hfr (off + j)
          have hlt' : (j : Int) < (n : Int) := by omega
          have HF1 : Hid (Fam 1 IntE (wr.setCell ⟨b, off + j, none⟩ (.int .i64 ((k + j : Nat) : Int))) b off n (upto (j + 1) (fun i => ((k + i : Nat) : Int)) (fun i => l.getD i 0)) f) := by
            have := hF.step intE (w' := wr.setCell ⟨b, off + j, none⟩ (.int .i64 ((k + j : Nat) : Int))) (j := j) ((k + j : Nat) : Int)
              (fun o ho => World.cell?_setCell_other _ _ _ _ (fun e => by have := congrArg Addr.off e; simp at this; omega))
              (fun i hi _ => by rw [hfe i hi]; exact fun x hx => nomatch hx)
              ⟨hfe j hlt, ⟨by omega, by omega⟩, by rw [Nat.mul_one]; exact World.cell?_setCell_same _ _ _ cx⟩
            rw [upto_step j (fun i => ((k + i : Nat) : Int)) (fun i => l.getD i 0)] at this
            exact this
          have hO1 := hO.set (b := b) (by simp) (off + j) (.int .i64 ((k + j : Nat) : Int))
          have hfr1 : ∀ x, (wr.setCell ⟨b, off + j, none⟩ (.int .i64 ((k + j : Nat) : Int))).frozen? ⟨b, x, none⟩ = false := fun x => by rw [World.frozen?_setCell]; exact hfr x
          clear hF hO
          go_wp2
          go_roundw
          case rel => exact ⟨j + 1, by omega, by go_num, by go_num, HF1.out, hfr1, hO1⟩
          case measure => simp [intOf]; omega
        · have e : n = j := by omega
          subst e
          have HS : Hid (Ints wr (some ⟨b, off, none⟩) (mkInts k l) (b :: (List.range l.length).flatMap f)) := by
            rw [Hn.out]
            exact Sl.fam hF (Nat.lt_of_lt_of_le hb hO.size) (by rw [mkInts_len]; exact Hn.out) (fun i hi => by
              rw [mkInts_len, Hn.out] at hi
              simp [upto, mkInts, hi])
          have HO : Hid (Onl (b :: (List.range l.length).flatMap f) w wr) := hO.mono (fun x hx => by simp at hx; simp [hx])
          have HR : Hid (∀ x ∈ b :: (List.range l.length).flatMap f, ∀ j, wr.frozen? ⟨x, j, none⟩ = false) := fun x hx j => by
            rcases List.mem_cons.1 hx with rfl | hx
            · exact hfr j
            · obtain ⟨i, hi, hx⟩ := List.mem_flatMap.1 hx
              rw [hfe i (by rw [← Hn.out]; exact List.mem_range.1 hi)] at hx
              exact nomatch hx
          clear hF hO
          go_wp2
          go_ret
          exact ⟨rfl, HS.out, HR.out, HO.out⟩
end Go.Proofs.Ytiagdabikbjbiaa
