/-
  Which labels are shown, day by day: the program.
-/
import Derived.Test.YtpbpnkklnbmkeaaXH
import Derived.Test.YtpbpnkklnbmkeaaXC
import Derived.Deep.AppendLies
namespace Go.Proofs.Ytpbpnkklnbmkeaa
open Go.RowKit Go.Maps

theorem hatS {v : Value} {g n c H : Nat} (h : v.ownBlock = some g ∨ g = H) : (Value.slice (some ⟨g, 0, none⟩) n c).ownBlock = v.ownBlock ∨ (Value.slice (some ⟨g, 0, none⟩) n c).ownBlock = some H := by
  rcases h with h | h
  · left; rw [h]; rfl
  · right; rw [h]; rfl
/-- What is shown on the day ahead of day k. -/
noncomputable def bfK (L : List (List LblD)) : Nat → List Int
  | 0 => []
  | k + 1 => plQ (L.getD k []) (bfK L k)
theorem bfK_len (L : List (List LblD)) (k : Nat) : (bfK L k).length ≤ 500 := by
  cases k
  · simp [bfK]
  · exact plQ_len _ _
theorem bfK_succ {L : List (List LblD)} {k : Nat} (h : k < L.length) : bfK L (k + 1) = plQ L[k] (bfK L k) := by
  show plQ (L.getD k []) (bfK L k) = _
  rw [getD_at _ h]
noncomputable def stTo (L : List (List LblD)) (k : Nat) : List (List Int) := (List.range k).map fun i => bfK L (i + 1)
theorem stTo_len (L : List (List LblD)) (k : Nat) : (stTo L k).length = k := by simp [stTo]
theorem stTo_succ (L : List (List LblD)) (k : Nat) : stTo L (k + 1) = stTo L k ++ [bfK L (k + 1)] := by simp [stTo, List.range_succ]
noncomputable def stQ (L : List (List LblD)) : List (List Int) := if L.length ≤ 30 then stTo L L.length else []
theorem stQ_len (L : List (List LblD)) : (stQ L).length ≤ 30 := by
  unfold stQ
  split
  · rw [stTo_len]; assumption
  · simp
theorem stQ_row {L : List (List LblD)} {d : List Int} (h : d ∈ stQ L) : d.length ≤ 500 := by
  unfold stQ at h
  split at h
  · obtain ⟨i, _, rfl⟩ := List.mem_map.1 h
    exact bfK_len _ _
  · cases h

def IsV : VElem (List Int) := fun w vs d bs => d.length ≤ maxLen ∧ ∃ a c, vs = [.slice a d.length c] ∧ Ints w a d bs
theorem isV : VStays 1 IsE IsV :=
  ⟨fun ⟨_, a, c, e, _⟩ => by rw [e]; rfl, fun ⟨_, a, c, e, _⟩ u hu => by
      subst e; simp only [List.mem_cons, List.not_mem_nil, or_false] at hu; rcases hu with rfl; rfl,
    fun ⟨h1, a, c, e, h5⟩ hA => ⟨h1, a, c, e, h5.alike intE hA⟩, fun ⟨_, a, c, e, h5⟩ => h5.lt intE,
    fun ⟨h1, a, c, e, h5⟩ hc => by subst e; exact ⟨a, c, h1, hc 0 (by simp), h5⟩⟩
theorem infoIs : (Try.prog.info? 25).map (fun i => (i.zero, i.size, i.bytes)) = some (some (.slice none 0 0), 1, 24) := by kernel_rfl

/-- Rows of numbers of the call's own are answered. -/
def IssOut (w : World) (l : List (List Int)) (e : Ending) (w' : World) : Prop := ∃ a' c' bs', e = .returned (.slice a' l.length c') ∧ IsL w' a' l bs' ∧ Fresh w w' bs' ∧ Bel w w'

/-- The rows of the days ahead, and what was shown last. -/
structure StA (lo : Nat) (wr : World) (v : Value) (L : List (List LblD)) (k : Nat) (u : Value) : Prop where
  gr : ∃ R f, Gr 1 IsV 25 lo wr v (stTo L k) R f
  last : ∃ a c bs, u = .slice a (bfK L k).length c ∧ Ints wr a (bfK L k) bs ∧ (∀ x ∈ bs, v.ownBlock ≠ some x)

set_option maxRecDepth 100000 in
set_option maxHeartbeats 4000000 in
theorem steady_any (a : Option Addr) (n c : Nat) (L : List (List LblD)) (bs : List Nat) (w : World) (hT : LsL w a L bs) (hn : L.length = n) (hm : n ≤ 1048576) (hs : ∀ d ∈ L, d.length ≤ 1048576) :
    Calls Try.prog 16 #[.slice a n c] w fun e w' => IssOut w (stQ L) e w' := by
  have Hn : Hid (L.length = n) := hn
  have Hs : Hid (∀ d ∈ L, d.length ≤ 1048576) := hs
  clear hn hs
  by_cases h30 : n ≤ 30
  · have h30' : (n : Int) ≤ 30 := by omega
    have HQ : Hid (stQ L = stTo L n) := (by unfold stQ; rw [Hn.out, if_pos h30] : stQ L = stTo L n)
    obtain ⟨i0, hi0, hz0, hz1, hz2⟩ := info_parts infoIs
    have A0 : StA w.heap.size w (.slice none 0 0) L 0 (.slice none 0 0) :=
      ⟨⟨_, _, Gr.nil _ _ _ _ _⟩, none, 0, [], rfl, Sl.nil, fun _ h => nomatch h⟩
    go_enter Try.func16, Try.ntmps16
    go_wp2
    go_loopw [3, 4, 12] (fun s u i wr => ∃ k : Nat, k ≤ n ∧ i = .int .i64 k ∧ StA w.heap.size wr s L k u ∧ Bel w wr) (fun _ _ i _ => n - (intOf i).toNat)
    case atStart => exact ⟨0, Nat.zero_le _, rfl, A0, Bel.refl _⟩
    case round =>
      obtain ⟨k, hk, rfl, hA, hbel⟩ := hrel
      clear A0
      obtain ⟨⟨R, f0, hG⟩, aa, ac, ab, rfl, hI, hab⟩ := hA
      obtain ⟨va, vc, rfl⟩ := own_shape hG.own
      by_cases hlt : k < n
      · have hkl : k < L.length := by rw [Hn.out]; exact hlt
        have hlt' : (k : Int) < (n : Int) := by omega
        have HLK : Hid ((stTo L k).length = k) := stTo_len L k
        have HE : Hid (stTo L (k + 1) = stTo L k ++ [bfK L (k + 1)]) := stTo_succ L k
        have hlen := bfK_len L k
        have hlen2 := bfK_len L (k + 1)
        have HB : Hid (bfK L (k + 1) = plQ L[k] (bfK L k)) := bfK_succ hkl
        obtain ⟨b, off, f, rfl, hb, hx⟩ := (hT.bel lsE hbel).out hkl
        obtain ⟨a0, k0, m0, c0, t0⟩ := hx k hkl
        rw [Nat.mul_one] at c0
        have hsk := Hs.out L[k] (List.getElem_mem hkl)
        clear hx
        obtain ⟨q, Hq⟩ : ∃ q, Hid (bfK L k = q) := ⟨_, (rfl : bfK L k = _)⟩
        obtain ⟨z, Hz⟩ : ∃ q, Hid (bfK L (k + 1) = q) := ⟨_, (rfl : bfK L (k + 1) = _)⟩
        rw [Hq.out] at hI HB hlen ⊢
        rw [Hz.out] at HB HE hlen2
        have HG : Hid (Gr 1 IsV 25 w.heap.size wr (.slice va (stTo L k).length vc) (stTo L k) R f0) := hG
        clear hG
        go_wp2_with fail
        refine (place_any a0 _ k0 L[k] (f k) aa _ ac q ab _ t0 rfl hsk hI rfl (by omega)).mono ?_
        rintro e w4 ⟨a4, c4, b4, rfl, I4, F4, h04⟩
        rw [← HB.out] at I4 ⊢
        have hBr := hbel
        have HV : Hid (IsV w4 [.slice a4 z.length c4] z b4) := (⟨by unfold maxLen; omega, a4, c4, rfl, I4⟩ : IsV w4 _ z b4)
        have hown2 := World.ownsRow.alloc (own_bel HG.out.own h04) (.cells #[.slice a4 z.length c4] 25)
        have hBa := bel_alloc (bel_step hBr h04) (.cells #[.slice a4 z.length c4] 25)
        have hB4 := bel_step hBr h04
        clear t0 c0 hb hI hab
        go_wp2_with (first
          | (at_builtin; refine wpList_append_lies _ rfl _ _ 39 rfl w.heap.size 25 i0 (.slice none 0 0) 1 24 Try.underlying39 hi0 hz0 hz1 hz2 rfl (by decide) _ _ _ rfl hown2 ⟨w4.heap.size, 0, none⟩ 1 1 [.slice a4 z.length c4] rfl rfl ?c1 ?c2 (by decide) ?c3 ?c4 ?c5 (w4.heap.size + 1) ?c6 ?_)
          | go_in)
        case c1 =>
          intro j u hj
          match j, hj with
          | 0, hj => simp at hj; subst hj; simp [Addr.add]
        case c2 =>
          intro u hu
          simp at hu
          rcases hu with rfl; rfl
        case c3 => have := HLK.out; unfold maxLen; omega
        case c4 => have := HLK.out; omega
        case c5 => have := hB4.out.size; simp; omega
        case c6 => simp
        intro g cap w5 hown' hgrow hat _
        have hat' : (Value.slice va (stTo L k).length vc).ownBlock = some g ∨ g = (w4.alloc (.cells #[.slice a4 z.length c4] 25)).heap.size := by simpa using hat
        have hgv : ∀ y, (Value.slice va (stTo L k).length vc).ownBlock = some y → y < wr.heap.size := fun y e => (HG.out.own.lt y e).2
        have hA4 : Alike w4 w5 b4 := by
          have h1 : Alike w4 (w4.alloc (.cells #[.slice a4 z.length c4] 25)) b4 := Alike.bel (bel_alloc (Bel.refl w4) _) (fun x hx => (F4.new x hx).2)
          exact h1.trans (alike_row hgrow (fun x hx => ⟨(h1 x hx).1, fun e => by have := hgv x e.symm; have := (F4.new x hx).1; omega⟩))
        have HA5 : Hid (StA w.heap.size w5 (.slice (some ⟨g, 0, none⟩) ((stTo L k).length + 1) cap) L (k + 1) (.slice a4 z.length c4)) := by
          have := Gr.add isV HG.out h04 (bel_alloc (Bel.refl w4) (.cells #[.slice a4 z.length c4] 25)) HV.out F4 hBr.out.size hown' hgrow (hatS hat')
          rw [← HE.out] at this
          refine ⟨⟨_, _, this⟩, a4, c4, b4, by rw [Hz.out], by rw [Hz.out]; exact I4.alike intE hA4, fun x hx e => ?_⟩
          have e1 : g = x := by injection e
          subst e1
          have := F4.new g hx
          rcases hat' with h | h
          · have := hgv g h; omega
          · simp at h; omega
        have hB5 : Bel w w5 := bel_grow hBa hgrow (fun j e => (hown2.lt j e).1)
        clear hown' hgrow hown2 hBa HG hat hat' HV F4 h04 hB4 hgv hA4 I4
        go_wp2
        go_roundw
        case rel => exact ⟨k + 1, by omega, by go_num, HA5.out, hB5⟩
        case measure => simp [intOf]; omega
      · have e : k = n := by omega
        subst e
        obtain ⟨a', bs', c', e', hS, hM⟩ := Gr.out isV hG
        injection e' with e1 _ e3
        subst e1 e3
        have HS : Hid (IsL wr va (stQ L) c') := (by rw [HQ.out]; exact hS : IsL wr va (stQ L) c')
        have HM : Hid (Fresh w wr c') := hM.fresh (Nat.le_refl _)
        have HZ : Hid (IssOut w (stQ L) (.returned (.slice va (stTo L k).length vc)) wr) := (by rw [← HQ.out]; exact ⟨_, _, c', rfl, HS.out, HM.out, hbel⟩ : IssOut w (stQ L) (.returned (.slice va (stTo L k).length vc)) wr)
        clear hG hS hM hI
        go_wp2
        go_ret
        exact HZ.out
  · have h30' : ¬ (n : Int) ≤ 30 := by omega
    have h30'' : (30 : Int) < (n : Int) := by omega
    have HQ : Hid (stQ L = []) := (by unfold stQ; rw [Hn.out, if_neg h30] : stQ L = [])
    go_enter Try.func16, Try.ntmps16
    go_wp2
    go_ret
    rw [HQ.out]
    exact ⟨none, 0, [], rfl, Sl.nil, ⟨List.nodup_nil, (fun _ h => nomatch h), (fun _ h => nomatch h)⟩, Bel.refl _⟩
end Go.Proofs.Ytpbpnkklnbmkeaa
