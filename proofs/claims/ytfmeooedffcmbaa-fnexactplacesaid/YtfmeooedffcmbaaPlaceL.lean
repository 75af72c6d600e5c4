/-
  The walk of the law: for every list of labels and every list of Ids Place answers as its model does; what was handed in stays as it was; the answer shares no memory with it nor with the answer of another call.
-/
import Derived.Test.YtfmeooedffcmbaaPlaJ
import Derived.Test.YtfmeooedffcmbaaXC
import Derived.Test.YtfmeooedffcmbaaLblO
import Derived.Test.YtfmeooedffcmbaaDLabel
import Derived.Test.YtfmeooedffcmbaaDInt64
import Derived.Test.YtfmeooedffcmbaaHeldI
import Derived.Test.YtfmeooedffcmbaaMarkT
namespace Go.Proofs.Ytfmeooedffcmbaa
open Go.RowKit Go.Maps

theorem OnlP.frozen {bs : List Nat} {w w' : World} (h : Onl bs w w') {b o : Nat} (hb : b < w.heap.size) (hn : b ∉ bs) : w'.frozen? ⟨b, o, none⟩ = w.frozen? ⟨b, o, none⟩ := World.frozen?_of_block (a := ⟨b, o, none⟩) (h.block b hb hn)
/-- m cells of a block are there and can be written. -/
structure Thr (w : World) (b off m : Nat) : Prop where
  lt : b < w.heap.size
  there : ∀ j, j < m → ∃ v, w.cell? ⟨b, off + j, none⟩ = some v
  free : ∀ j, w.frozen? ⟨b, j, none⟩ = false
theorem Thr.set {w : World} {b off m : Nat} (h : Thr w b off m) (o : Nat) (v : Value) : Thr (w.setCell ⟨b, o, none⟩ v) b off m := by
  refine ⟨by simpa [World.setCell] using h.lt, fun j hj => ?_, fun j => by rw [World.frozen?_setCell]; exact h.free j⟩
  obtain ⟨u, hu⟩ := h.there j hj
  by_cases e : o = off + j
  · subst e; exact ⟨v, World.cell?_setCell_same _ _ _ hu⟩
  · exact ⟨u, by rw [World.cell?_setCell_other _ _ _ _ (fun e2 => e (by have := congrArg Addr.off e2; simpa using this))]; exact hu⟩
theorem Thr.bel {w w' : World} {b off m : Nat} (h : Thr w b off m) (hb : Bel w w') : Thr w' b off m :=
  ⟨bel_lt hb h.lt, fun j hj => by obtain ⟨u, hu⟩ := h.there j hj; exact ⟨u, bel_cellM hb h.lt hu⟩, fun j => by rw [hb.out.frozen (p := ⟨b, j, none⟩) h.lt]; exact h.free j⟩
set_option maxRecDepth 100000 in
set_option maxHeartbeats 1000000 in
theorem markLabelS_o (a : Option Addr) (n c : Nat) (l : List LblD) (bs : List Nat) (k : Nat) (w : World) (hT : LblL w a l bs) (hf : ∀ x ∈ bs, ∀ j, w.frozen? ⟨x, j, none⟩ = false) (hn : l.length = n) (hm : n ≤ 1048576) (h0k : 0 < k) (hk : k ≤ 1125899906842624) :
    Calls Try.prog 26 #[.slice a n c, .int .i64 k] w fun e w' => e = .returned (.int .i64 ((k + 6 * n : Nat) : Int)) ∧ Onl bs w w' := by
  by_cases h0 : n = 0
  · subst h0
    go_enter Try.func26, Try.ntmps26
    go_wp2
    go_loopw [1, 5] (fun t i wr => t = .int .i64 k ∧ i = .int .i64 0 ∧ wr = w) (fun _ _ _ => 0)
    case atStart => exact ⟨rfl, rfl, rfl⟩
    case round =>
      obtain ⟨rfl, rfl, rfl⟩ := hrel
      go_wp2
      go_ret
      exact ⟨by simp, Onl.refl _ _⟩
  · rcases hT with ⟨rfl, _⟩ | ⟨b, off, f, rfl, hb, rfl, hx⟩
    · exact absurd hn.symm h0
    · have hT0 : Thr w b off (n * 6) := ⟨hb, fun j hj => ?_, hf b (by simp)⟩
      rotate_left
      · have hi : j / 6 < l.length := by rw [hn]; omega
        have hc := hx (j / 6) hi
        have e : j = j / 6 * 6 + j % 6 := by omega
        have hr : j % 6 < 6 := by omega
        rw [e, ← Nat.add_assoc]
        obtain ⟨_, _, _, _, _, _, _, c0, c1, c2, c3, c4, c5⟩ := hc
        match hj' : j % 6, hr with
        | 0, _ => exact ⟨_, c0⟩
        | 1, _ => exact ⟨_, c1⟩
        | 2, _ => exact ⟨_, c2⟩
        | 3, _ => exact ⟨_, c3⟩
        | 4, _ => exact ⟨_, c4⟩
        | 5, _ => exact ⟨_, c5⟩
      have Hn : Hid (l.length = n) := hn
      clear hx hf hn
      go_enter Try.func26, Try.ntmps26
      go_wp2
      go_loopw [1, 5] (fun t i wr => ∃ j : Nat, j ≤ n ∧ i = .int .i64 j ∧ t = .int .i64 ((k + 6 * j : Nat) : Int) ∧ Thr wr b off (n * 6) ∧ Onl [b] w wr) (fun _ i _ => n - (intOf i).toNat)
      case atStart => exact ⟨0, Nat.zero_le _, rfl, by simp, hT0, Onl.refl _ _⟩
      case round =>
        obtain ⟨j, hj, rfl, rfl, hF, hO⟩ := hrel
        clear hT0
        by_cases hlt : j < n
        · have hlt' : (j : Int) < (n : Int) := by omega
          obtain ⟨v0, d0⟩ := hF.there (j * 6) (by omega)
          obtain ⟨v1, d1⟩ := hF.there (j * 6 + 1) (by omega)
          rw [← Nat.add_assoc] at d1
          obtain ⟨v2, d2⟩ := hF.there (j * 6 + 2) (by omega)
          rw [← Nat.add_assoc] at d2
          obtain ⟨v3, d3⟩ := hF.there (j * 6 + 3) (by omega)
          rw [← Nat.add_assoc] at d3
          obtain ⟨v4, d4⟩ := hF.there (j * 6 + 4) (by omega)
          rw [← Nat.add_assoc] at d4
          obtain ⟨v5, d5⟩ := hF.there (j * 6 + 5) (by omega)
          rw [← Nat.add_assoc] at d5
          have f0 := hF.free
          have hbl := hF.lt
          obtain ⟨K, HK⟩ : ∃ K, Hid (k + 6 * j = K) := ⟨_, (rfl : k + 6 * j = _)⟩
          rw [HK.out]
          have hK : (K : Int) ≤ 2251799813685248 := by have := HK.out; omega
          have hK0 : 0 < K := by have := HK.out; omega
          have hT2 := (((((((hF).set (off + j * 6) (.int .i64 (K : Int))).set (off + j * 6 + 1) (.int .i64 ((K : Int) + 1))).set (off + j * 6 + 2) (.int .i64 ((K : Int) + 2))).set (off + j * 6 + 3) (.int .i64 ((K : Int) + 3))).set (off + j * 6 + 4) (.int .i64 ((K : Int) + 4))).set (off + j * 6 + 5) (.int .i64 ((K : Int) + 5)))
          have hO2 := (((((((hO).set (b := b) (by simp) (off + j * 6) (.int .i64 (K : Int))).set (b := b) (by simp) (off + j * 6 + 1) (.int .i64 ((K : Int) + 1))).set (b := b) (by simp) (off + j * 6 + 2) (.int .i64 ((K : Int) + 2))).set (b := b) (by simp) (off + j * 6 + 3) (.int .i64 ((K : Int) + 3))).set (b := b) (by simp) (off + j * 6 + 4) (.int .i64 ((K : Int) + 4))).set (b := b) (by simp) (off + j * 6 + 5) (.int .i64 ((K : Int) + 5)))
          have HT2 := (show Hid _ from hT2)
          have HO2 := (show Hid _ from hO2)
          clear hF hO hT2 hO2
          go_wp2
          go_roundw
          case rel => exact ⟨j + 1, by omega, by go_num, by have := HK.out; go_num, HT2.out, HO2.out⟩
          case measure => simp [intOf]; omega
        · have e : n = j := by omega
          subst e
          have HO : Hid (Onl (b :: (List.range l.length).flatMap f) w wr) := hO.mono (fun x hx => by simp at hx; simp [hx])
          clear hO hF
          go_wp2
          go_ret
          exact ⟨rfl, HO.out⟩

set_option maxHeartbeats 4000000 in
theorem lawFnExactPlace_any (a : Option Addr) (c : Nat) (l : List LblD) (bs : List Nat) (ai : Option Addr) (ci : Nat) (ids : List Int) (bi : List Nat) (w : World) (hT : LblL w a l bs) (hm : l.length ≤ maxLen) (hI : Ints w ai ids bi) (hmi : ids.length ≤ maxLen) :
    Calls Try.prog 5 #[.slice a l.length c, .slice ai ids.length ci] w fun e w' => e = .returned (.bool true) ∧ Bel w w' := by
  obtain ⟨n, hn⟩ : ∃ n, l.length = n := ⟨_, rfl⟩
  obtain ⟨ni, hni⟩ : ∃ n, ids.length = n := ⟨_, rfl⟩
  rw [hn] at hm ⊢
  rw [hni] at hmi ⊢
  unfold maxLen at hm hmi
  have Hn : Hid (l.length = n) := hn
  have Hi : Hid (ids.length = ni) := hni
  have hql0 := plQ_len l ids
  obtain ⟨q, Hq⟩ : ∃ q, Hid (plQ l ids = q) := ⟨_, (rfl : plQ l ids = _)⟩
  rw [Hq.out] at hql0
  have hql : q.length ≤ 1048576 := by omega
  by_cases hg : ni ≤ 1048576
  · have hi' := hg
    have hgi : (ni : Int) ≤ 1048576 := by omega
    by_cases hf : (n : Int) ≤ 1048576
    · have hs : szR 1048576 l.length = 1048576 - n := by rw [hn]; exact szR_pos hf
      obtain ⟨r, Hr⟩ : ∃ r, Hid (szR 1048576 l.length = r) := ⟨_, (rfl : szR 1048576 l.length = _)⟩
      have hr0 : 0 ≤ r := by rw [← Hr.out, hs]; omega
      have hn' : n ≤ 1048576 := by omega
      clear hs hn hf hni
      go_enter Try.func5, Try.ntmps5
      go_wp2_with fail
      refine (szLabelS_any _ _ _ l bs _ _ hT Hn.out (by omega) (by omega) (by omega)).mono ?_
      rintro e w1 ⟨rfl, hb1⟩
      rw [Hr.out]
      go_wp2_with fail
      refine (toLabelS_any _ _ _ l bs _ (hT.bel lblE hb1) Hn.out hn').mono ?_
      rintro e w2a ⟨B2, d2, rfl, u2a, _, hb2a⟩
      have hB2a := bel_step hb1 hb2a
      go_wp2_with fail
      refine (toInt64S_any _ _ _ ids bi _ (hI.bel intE hB2a) Hi.out hi').mono ?_
      rintro e w2 ⟨B2i, d2i, rfl, u2i, _, hb2⟩
      have hB2 := bel_step hB2a hb2
      have u2 := u2a.bel lblE hb2
      clear u2a
      go_wp2_with fail
      refine (specPlace_any _ _ _ l d2 _ _ _ ids d2i _ u2 Hn.out hn' (Nat.le_refl _) u2i Hi.out hi').mono ?_
      rintro e w3 ⟨a3, c3, e3, rfl, I3, hb3⟩
      rw [Hq.out] at I3 ⊢
      have hB3 := bel_step hB2 hb3
      clear u2 u2i
      go_wp2_with fail
      refine (toLabelS_any _ _ _ l bs _ (hT.bel lblE hB3) Hn.out hn').mono ?_
      rintro e w4a ⟨B4, d4, rfl, u4a, F4, hb4a⟩
      have hB4a := bel_step hB3 hb4a
      go_wp2_with fail
      refine (toInt64S_any _ _ _ ids bi _ (hI.bel intE hB4a) Hi.out hi').mono ?_
      rintro e w4 ⟨B4i, d4i, rfl, u4i, F4i, hb4⟩
      have hB4 := bel_step hB4a hb4
      have u4 := u4a.bel lblE hb4
      have HF4 : Hid (∀ x ∈ d4, w3.heap.size ≤ x ∧ x < w4a.heap.size) := F4.new
      have HF4i : Hid (∀ x ∈ d4i, w4a.heap.size ≤ x ∧ x < w4.heap.size) := F4i.new
      have G4 := F4.bel hb4
      clear u4a F4
      go_wp2_with fail
      refine (place_any _ _ _ l d4 _ _ _ ids d4i _ u4 Hn.out hn' u4i Hi.out hi').mono ?_
      rintro e w5 ⟨a5, c5, e5, rfl, I5, F5, hb5⟩
      rw [Hq.out] at I5 ⊢
      have hB5 := bel_step hB4 hb5
      have HF5 : Hid (∀ x ∈ e5, w4.heap.size ≤ x ∧ x < w5.heap.size) := F5.new
      have h35 := bel_step hb4a (bel_step hb4 hb5)
      have I53 := I3.bel intE h35
      go_wp2_with fail
      refine (eqInt64S_same _ _ _ _ _ q _ _ _ I5 I53 rfl hql).mono ?_
      rintro e w6 ⟨rfl, hb6⟩
      have hB6 := bel_step hB5 hb6
      go_wp2_with fail
      refine (toLabelS_any _ _ _ l bs _ (hT.bel lblE hB6) Hn.out hn').mono ?_
      rintro e w7 ⟨B7, d7, rfl, u7, _, hb7⟩
      have hB7 := bel_step hB6 hb7
      have h57 := bel_step hb6 hb7
      go_wp2_with fail
      refine (eqLabelS_same _ _ _ _ _ l d4 d7 _ ((u4.bel lblE hb5).bel lblE h57) u7 Hn.out hn').mono ?_
      rintro e w8 ⟨rfl, hb8⟩
      have hB8 := bel_step hB7 hb8
      have h58 := bel_step h57 hb8
      clear u7
      go_wp2_with fail
      refine (toInt64S_any _ _ _ ids bi _ (hI.bel intE hB8) Hi.out hi').mono ?_
      rintro e w9 ⟨B9, d9, rfl, u9, _, hb9⟩
      have hB9 := bel_step hB8 hb9
      have h59 := bel_step h58 hb9
      go_wp2_with fail
      refine (eqInt64S_same _ _ _ _ _ ids d4i d9 _ ((u4i.bel intE hb5).bel intE h59) u9 Hi.out hi').mono ?_
      rintro e w10 ⟨rfl, hb10⟩
      have hB10 := bel_step hB9 hb10
      have h510 := bel_step h59 hb10
      have s1 := hb4a.out.size
      have s2 := hb4.out.size
      have s3 := hB3.out.size
      have l3 := I3.lt intE
      have J3 := I53.bel intE h510
      have J5 := I5.bel intE h510
      have K5 := F5.bel h510
      have U4 := (u4.bel lblE hb5).bel lblE h510
      have L4 := (G4.bel hb5).bel h510
      have U4i := (u4i.bel intE hb5).bel intE h510
      have L4i := (F4i.bel hb5).bel h510
      have HD34 : Hid (∀ x ∈ e3, x ∉ d4) := fun x hx hy => by have := l3 x hx; have := (HF4.out x hy).1; omega
      have HD34i : Hid (∀ x ∈ e3, x ∉ d4i) := fun x hx hy => by have := l3 x hx; have := (HF4i.out x hy).1; omega
      have HD35 : Hid (∀ x ∈ e3, x ∉ e5) := fun x hx hy => by have := l3 x hx; have := (HF5.out x hy).1; omega
      have HD54 : Hid (∀ x ∈ e5, x ∉ d4) := fun x hx hy => by have := (HF5.out x hx).1; have := (HF4.out x hy).2; omega
      have HD54i : Hid (∀ x ∈ e5, x ∉ d4i) := fun x hx hy => by have := (HF5.out x hx).1; have := (HF4i.out x hy).2; omega
      have HDi4 : Hid (∀ x ∈ d4i, x ∉ d4) := fun x hx hy => by have := (HF4i.out x hx).1; have := (HF4.out x hy).2; omega
      have Hlo4 : Hid (∀ x ∈ d4, w.heap.size ≤ x) := fun x hx => by have := (HF4.out x hx).1; omega
      have Hlo4i : Hid (∀ x ∈ d4i, w.heap.size ≤ x) := fun x hx => by have := (HF4i.out x hx).1; omega
      have Hlo5 : Hid (∀ x ∈ e5, w.heap.size ≤ x) := fun x hx => by have := (HF5.out x hx).1; omega
      clear I3 I53 I5 F5 u4 G4 u4i F4i u9 s1 s2 s3 l3 h57 h58 h59 h35 hb6 hb7 hb8 hb9 hb10
      go_wp2_with fail
      refine (markLabelS_o _ n _ l d4 1 _ U4 L4.free Hn.out hn' (by omega) (by omega)).mono ?_
      rintro e w11 ⟨rfl, O11⟩
      have S11 : Bel w w11 := Onl.to_bel hB10 O11 Hlo4.out
      have J3a := J3.alike intE (O11.alike (J3.lt intE) HD34.out)
      have J5a := J5.alike intE (O11.alike (J5.lt intE) HD54.out)
      have U4a := U4i.alike intE (O11.alike (U4i.lt intE) HDi4.out)
      have K5a : ∀ x ∈ e5, ∀ j, w11.frozen? ⟨x, j, none⟩ = false := fun x hx j => by rw [OnlP.frozen O11 (J5.lt intE x hx) (HD54.out x hx)]; exact K5.free x hx j
      have K4a : ∀ x ∈ d4i, ∀ j, w11.frozen? ⟨x, j, none⟩ = false := fun x hx j => by rw [OnlP.frozen O11 (U4i.lt intE x hx) (HDi4.out x hx)]; exact L4i.free x hx j
      clear J3 J5 K5 U4 L4 U4i L4i O11
      obtain ⟨K, HK⟩ : ∃ K, Hid (1 + 6 * n = K) := ⟨_, (rfl : 1 + 6 * n = _)⟩
      have hK : K ≤ 1125899906842624 := by rw [← HK.out]; omega
      rw [HK.out]
      go_wp2_with fail
      refine (markInt64S_any _ ni _ ids d4i K _ U4a K4a Hi.out hi' hK).mono ?_
      rintro e w12 ⟨rfl, _, _, O12⟩
      have S12 : Bel w w12 := Onl.to_bel S11 O12 Hlo4i.out
      have J3b := J3a.alike intE (O12.alike (J3a.lt intE) HD34i.out)
      have J5b := J5a.alike intE (O12.alike (J5a.lt intE) HD54i.out)
      have K5b : ∀ x ∈ e5, ∀ j, w12.frozen? ⟨x, j, none⟩ = false := fun x hx j => by rw [OnlP.frozen O12 (J5a.lt intE x hx) (HD54i.out x hx)]; exact K5a x hx j
      have hk0 : ¬ ((K + ni : Nat) : Int) < 0 := by omega
      clear J3a J5a K5a U4a K4a O12
      go_wp2_with fail
      refine (eqInt64S_same _ _ _ _ _ q _ _ _ J5b J3b rfl hql).mono ?_
      rintro e w13 ⟨rfl, hb13⟩
      have S13 := bel_step S12 hb13
      have J3c := J3b.bel intE hb13
      have J5c := J5b.bel intE hb13
      have K5c : ∀ x ∈ e5, ∀ j, w13.frozen? ⟨x, j, none⟩ = false := fun x hx j => by rw [hb13.out.frozen (p := ⟨x, j, none⟩) (J5b.lt intE x hx)]; exact K5b x hx j
      clear J3b J5b K5b
      go_wp2_with fail
      refine (markInt64S_any a5 _ c5 q e5 1 _ J5c K5c rfl hql (by omega)).mono ?_
      rintro e w14 ⟨rfl, M14, _, O14⟩
      have S14 : Bel w w14 := Onl.to_bel S13 O14 Hlo5.out
      have J3d := J3c.alike intE (O14.alike (J3c.lt intE) HD35.out)
      have hk1 : ¬ ((1 + q.length : Nat) : Int) < 0 := by omega
      clear J3c J5c K5c O14
      go_wp2_with fail
      refine (heldInt64S_any a5 _ c5 q e5 1 _ M14 rfl hql (by omega)).mono ?_
      rintro e w15 ⟨rfl, rfl⟩
      go_wp2_with fail
      refine (toLabelS_any _ _ _ l bs _ (hT.bel lblE S14) Hn.out hn').mono ?_
      rintro e w16 ⟨B16, d16, rfl, u16, _, hb16⟩
      have S16 := bel_step S14 hb16
      go_wp2_with fail
      refine (toInt64S_any _ _ _ ids bi _ (hI.bel intE S16) Hi.out hi').mono ?_
      rintro e w17 ⟨B17, d17, rfl, u17, _, hb17⟩
      have S17 := bel_step S16 hb17
      go_wp2_with fail
      refine (place_any _ _ _ l d16 _ _ _ ids d17 _ (u16.bel lblE hb17) Hn.out hn' u17 Hi.out hi').mono ?_
      rintro e w18 ⟨a18, c18, e18, rfl, I18, _, hb18⟩
      rw [Hq.out] at I18 ⊢
      have S18 := bel_step S17 hb18
      have h1418 := bel_step hb16 (bel_step hb17 hb18)
      clear u16 u17
      go_wp2_with fail
      refine (eqInt64S_same _ _ _ _ _ q _ _ _ I18 (J3d.bel intE h1418) rfl hql).mono ?_
      rintro e w19 ⟨rfl, hb19⟩
      have S19 := bel_step S18 hb19
      have M19 := M14.bel intE (bel_step h1418 hb19)
      clear I18 M14 J3d
      go_wp2_with fail
      refine (heldInt64S_any a5 _ c5 q e5 1 _ M19 rfl hql (by omega)).mono ?_
      rintro e w20 ⟨rfl, rfl⟩
      go_wp2
      go_ret
      exact ⟨rfl, S19⟩
    · obtain ⟨r, Hr⟩ : ∃ r, Hid (szR 1048576 l.length = r) := ⟨_, (rfl : szR 1048576 l.length = _)⟩
      have hr0 : r = -1 := by rw [← Hr.out, hn]; exact szR_neg hf
      subst hr0
      clear hn hf hni
      go_enter Try.func5, Try.ntmps5
      go_wp2_with fail
      refine (szLabelS_any _ _ _ l bs _ _ hT Hn.out (by omega) (by omega) (by omega)).mono ?_
      rintro e w1 ⟨rfl, hb1⟩
      rw [Hr.out]
      go_wp2
      go_ret
      exact ⟨rfl, hb1⟩
  · have hgi : ¬ (ni : Int) ≤ 1048576 := by omega
    clear hn hni
    go_enter Try.func5, Try.ntmps5
    go_wp2
    go_ret
    exact ⟨rfl, Bel.refl _⟩
end Go.Proofs.Ytfmeooedffcmbaa
