/- sort.Search with the closures of Find and Floor, and Find, Floor, Below, at a row of texts that rises: the places that they tell; nothing that was there has turned. Conditions: at most 2^38 texts, each of at most 2^47 bytes. -/
import Derived.Test.YtdbklklmpnlinaaGreatRowFacts
import Derived.Test.YtdbklklmpnlinaaGreatKeyLess
import Derived.Deep.LoopGhost
namespace Go.Proofs.YtdbklklmpnlinaaGreat
open Go.RowKit

/-- Each text is less than the next one. -/
def Rises (xs : List ByteArray) : Prop := ∀ i (h : i + 1 < xs.length), lss xs[i].data.toList xs[i + 1].data.toList = true

theorem Rises.lt {xs : List ByteArray} (h : Rises xs) (i j : Nat) (hij : i < j) (hj : j < xs.length) : lss xs[i].data.toList xs[j].data.toList = true := by
  induction j with
  | zero => omega
  | succ j ih =>
    by_cases e : i = j
    · subst e; exact h i hj
    · exact lss_trans _ _ _ (ih (by omega) (by omega)) (h j hj)

/-- Places from lo on say yes, those ahead of it no. -/
def Edge (n lo : Nat) (p : Nat → Bool) : Prop := lo ≤ n ∧ (∀ i, i < lo → p i = false) ∧ (∀ i, lo ≤ i → i < n → p i = true)

theorem Edge.one {n a b : Nat} {p : Nat → Bool} (h : Edge n a p) (k : Edge n b p) : a = b := by
  rcases Nat.lt_trichotomy a b with g | g | g
  · have h1 := k.2.1 a g
    have h2 := h.2.2 a (Nat.le_refl _) (by have := k.1; omega)
    rw [h1] at h2; cases h2
  · exact g
  · have h1 := h.2.1 b g
    have h2 := k.2.2 b (Nat.le_refl _) (by have := h.1; omega)
    rw [h1] at h2; cases h2

def Found (w w' : World) (e : Ending) (n : Nat) (p : Nat → Bool) : Prop := ∃ at_, e = .returned (.int .i64 (at_ : Nat)) ∧ Edge n at_ p ∧ Drew w w'

theorem Drew.below0 {w w' : World} (h : Drew w w') (B : Nat) : Below B w w' := by
  obtain ⟨q, rfl⟩ := h
  exact below_drewN (Below.refl _ _) _

theorem Drew.cell0 {w w' : World} (h : Drew w w') (p : Addr) : w'.cell? p = w.cell? p := by
  obtain ⟨q, rfl⟩ := h
  rfl

/-- The closures' boxes, and the text that is looked at. -/
structure Boxes (W : World) (b1 b2 : Nat) (v : Value) (k : ByteArray) (xs : List ByteArray) : Prop where
  row : W.cell? ⟨b1, 0, none⟩ = some v
  key : W.cell? ⟨b2, 0, none⟩ = some (.string k)
  rd : Rd W v (xs.map Value.string)
  ks : k.size ≤ 140737488355328
  xs : ∀ x ∈ xs, x.size ≤ 140737488355328

theorem Boxes.drew {W W' : World} {b1 b2 : Nat} {v : Value} {k : ByteArray} {xs : List ByteArray} (h : Boxes W b1 b2 v k xs) (hd : Drew W W') : Boxes W' b1 b2 v k xs :=
  ⟨by rw [hd.cell0]; exact h.row, by rw [hd.cell0]; exact h.key, h.rd.keep (hd.below0 _), h.ks, h.xs⟩

theorem cmp3_ge (a b : List UInt8) : decide (0 ≤ cmp3 a b) = !lss a b := by
  have := cmp3_neg a b
  cases h : lss a b with
  | true => rw [h] at this; have : cmp3 a b < 0 := by rw [this]
            simp; omega
  | false => rw [h] at this; have : ¬ cmp3 a b < 0 := by rw [this]; simp
             simp; omega

theorem cmp3_gt (a b : List UInt8) : decide (0 < cmp3 a b) = lss b a := by
  have := cmp3_pos a b
  cases h : lss b a with
  | true => rw [h] at this; have : 0 < cmp3 a b := by rw [this]
            simp; omega
  | false => rw [h] at this; have : ¬ 0 < cmp3 a b := by rw [this]; simp
             simp; omega

set_option maxHeartbeats 1000000 in
set_option maxRecDepth 100000 in
theorem closFind_any (b1 b2 i : Nat) (v : Value) (k : ByteArray) (xs : List ByteArray) (W : World) (hB : Boxes W b1 b2 v k xs) (hi : i < xs.length) :
    Calls Tryz.prog 154 #[.int .i64 i, .pointer (some ⟨b1, 0, none⟩), .pointer (some ⟨b2, 0, none⟩)] W fun e w' => e = .returned (.bool (!lss xs[i].data.toList k.data.toList)) ∧ Drew W w' := by
  have HC := fun W => Lib.hid (compare_any xs[i] k W (hB.xs _ (List.getElem_mem hi)) hB.ks)
  have hcell : ∃ ao n c g o, v = .slice ao n c ∧ ao = some ⟨g, o, none⟩ ∧ i < n ∧ n ≤ 9223372036854775807 ∧ W.cell? ⟨g, o + i, none⟩ = some (.string xs[i]) := by
    obtain ⟨ao, c, h1, h2, h3, h4⟩ := hB.rd
    obtain ⟨g, o, e, hc⟩ := h4 (by intro h; have := congrArg List.length h; simp at this; subst this; simp at hi)
    refine ⟨ao, _, c, g, o, h1, e, by simpa using hi, by omega, ?_⟩
    have := hc i (by simpa using hi)
    simpa using this
  obtain ⟨ao, n, c, g, o, rfl, rfl, hin, hnb, hc⟩ := hcell
  have k1 := hB.row
  have k2 := hB.key
  have HL := Lib.hid (cmp3_ge xs[i].data.toList k.data.toList)
  clear hB
  generalize xs[i] = x at *
  clear hi
  generalize cmp3 x.data.toList k.data.toList = cc at *
  have hi1 : (i : Int) < n := by omega
  go_enter Tryz.func154, Tryz.ntmps154
  go_wp2
  go_quiet ((go_at_call 148; exact Calls.quiet_of (HC _).out))
  go_wp2
  go_ret
  exact ⟨ret_b HL.out, ⟨_, rfl⟩⟩

set_option maxHeartbeats 2000000 in
set_option maxRecDepth 100000 in
theorem searchFind_any (b1 b2 n : Nat) (p : Nat → Bool) (w : World) (hn : n ≤ 274877906944)
    (hf : ∀ W i, i < n → Drew w W → Calls Tryz.prog 154 #[.int .i64 i, .pointer (some ⟨b1, 0, none⟩), .pointer (some ⟨b2, 0, none⟩)] W fun e w' => e = .returned (.bool (p i)) ∧ Drew W w')
    (hm : ∀ a b, a ≤ b → b < n → p a = true → p b = true) :
    Calls Tryz.prog 146 #[.int .i64 n, .func (.func 154) #[] #[.pointer (some ⟨b1, 0, none⟩), .pointer (some ⟨b2, 0, none⟩)]] w fun e w' => Found w w' e n p := by
  have HF := Lib.hid hf
  have HM := Lib.hid hm
  clear hf hm
  go_enter Tryz.func146, Tryz.ntmps146
  go_wp2
  go_loopg [5, 6] n (fun kx s5 s6 wr => ∃ lo hi : Nat, s5 = .int .i64 lo ∧ s6 = .int .i64 hi ∧ lo ≤ hi ∧ hi ≤ n ∧ hi - lo ≤ kx ∧ Drew w wr ∧ Hid ((∀ t, t < lo → p t = false) ∧ (∀ t, hi ≤ t → t < n → p t = true)))
  case atStart => exact ⟨0, n, rfl, rfl, Nat.zero_le _, Nat.le_refl _, by omega, Drew.refl w, Lib.hid ⟨fun t ht => absurd ht (Nat.not_lt_zero _), fun t h1 h2 => absurd h2 (by omega)⟩⟩
  case round =>
    obtain ⟨lo, hi, rfl, rfl, hlh, hin, hg, hd, I⟩ := hrel
    by_cases hlt : lo < hi
    · have hc := HF.out wr ((lo + hi) / 2) (by omega) hd
      rw [show (((lo + hi) / 2 : Nat) : Int) = ((lo : Int) + (hi : Int)) / 2 by omega] at hc
      cases hp : p ((lo + hi) / 2) with
      | false =>
        rw [hp] at hc
        have HP := Lib.hid hp
        have HC := Lib.hid hc
        clear hp hc
        go_wp2_with fail
        refine HC.out.mono ?_
        rintro e w1 ⟨rfl, hd1⟩
        go_wp2
        go_roundg (hi - ((lo + hi) / 2 + 1))
        case measure => omega
        case rel =>
          refine ⟨(lo + hi) / 2 + 1, hi, by rw [show ((lo : Int) + (hi : Int)) / 2 + 1 = (((lo + hi) / 2 + 1 : Nat) : Int) by omega], rfl, by omega, hin, Nat.le_refl _, hd.trans hd1, Lib.hid ⟨fun t ht => ?_, I.out.2⟩⟩
          cases h : p t with
          | false => rfl
          | true => have := HM.out t ((lo + hi) / 2) (by omega) (by omega) h; rw [HP.out] at this; cases this
      | true =>
        rw [hp] at hc
        have HP := Lib.hid hp
        have HC := Lib.hid hc
        clear hp hc
        go_wp2_with fail
        refine HC.out.mono ?_
        rintro e w1 ⟨rfl, hd1⟩
        go_wp2
        go_roundg ((lo + hi) / 2 - lo)
        case measure => omega
        case rel => exact ⟨lo, (lo + hi) / 2, rfl, by rw [show ((lo : Int) + (hi : Int)) / 2 = (((lo + hi) / 2 : Nat) : Int) by omega], by omega, by omega, Nat.le_refl _, hd.trans hd1, Lib.hid ⟨I.out.1, fun t ht htn => HM.out ((lo + hi) / 2) t ht htn HP.out⟩⟩
    · obtain rfl : hi = lo := by omega
      go_wp2
      go_ret
      exact ⟨hi, rfl, ⟨hin, I.out.1, I.out.2⟩, hd⟩

set_option maxHeartbeats 1000000 in
set_option maxRecDepth 100000 in
theorem closFloor_any (b1 b2 i : Nat) (v : Value) (k : ByteArray) (xs : List ByteArray) (W : World) (hB : Boxes W b1 b2 v k xs) (hi : i < xs.length) :
    Calls Tryz.prog 147 #[.int .i64 i, .pointer (some ⟨b1, 0, none⟩), .pointer (some ⟨b2, 0, none⟩)] W fun e w' => e = .returned (.bool (lss k.data.toList xs[i].data.toList)) ∧ Drew W w' := by
  have HC := fun W => Lib.hid (compare_any xs[i] k W (hB.xs _ (List.getElem_mem hi)) hB.ks)
  have hcell : ∃ ao n c g o, v = .slice ao n c ∧ ao = some ⟨g, o, none⟩ ∧ i < n ∧ n ≤ 9223372036854775807 ∧ W.cell? ⟨g, o + i, none⟩ = some (.string xs[i]) := by
    obtain ⟨ao, c, h1, h2, h3, h4⟩ := hB.rd
    obtain ⟨g, o, e, hc⟩ := h4 (by intro h; have := congrArg List.length h; simp at this; subst this; simp at hi)
    refine ⟨ao, _, c, g, o, h1, e, by simpa using hi, by omega, ?_⟩
    have := hc i (by simpa using hi)
    simpa using this
  obtain ⟨ao, n, c, g, o, rfl, rfl, hin, hnb, hc⟩ := hcell
  have k1 := hB.row
  have k2 := hB.key
  have HL := Lib.hid (cmp3_gt xs[i].data.toList k.data.toList)
  clear hB
  generalize xs[i] = x at *
  clear hi
  generalize cmp3 x.data.toList k.data.toList = cc at *
  have hi1 : (i : Int) < n := by omega
  go_enter Tryz.func147, Tryz.ntmps147
  go_wp2
  go_quiet ((go_at_call 148; exact Calls.quiet_of (HC _).out))
  go_wp2
  go_ret
  exact ⟨ret_b HL.out, ⟨_, rfl⟩⟩

set_option maxHeartbeats 2000000 in
set_option maxRecDepth 100000 in
theorem searchFloor_any (b1 b2 n : Nat) (p : Nat → Bool) (w : World) (hn : n ≤ 274877906944)
    (hf : ∀ W i, i < n → Drew w W → Calls Tryz.prog 147 #[.int .i64 i, .pointer (some ⟨b1, 0, none⟩), .pointer (some ⟨b2, 0, none⟩)] W fun e w' => e = .returned (.bool (p i)) ∧ Drew W w')
    (hm : ∀ a b, a ≤ b → b < n → p a = true → p b = true) :
    Calls Tryz.prog 146 #[.int .i64 n, .func (.func 147) #[] #[.pointer (some ⟨b1, 0, none⟩), .pointer (some ⟨b2, 0, none⟩)]] w fun e w' => Found w w' e n p := by
  have HF := Lib.hid hf
  have HM := Lib.hid hm
  clear hf hm
  go_enter Tryz.func146, Tryz.ntmps146
  go_wp2
  go_loopg [5, 6] n (fun kx s5 s6 wr => ∃ lo hi : Nat, s5 = .int .i64 lo ∧ s6 = .int .i64 hi ∧ lo ≤ hi ∧ hi ≤ n ∧ hi - lo ≤ kx ∧ Drew w wr ∧ Hid ((∀ t, t < lo → p t = false) ∧ (∀ t, hi ≤ t → t < n → p t = true)))
  case atStart => exact ⟨0, n, rfl, rfl, Nat.zero_le _, Nat.le_refl _, by omega, Drew.refl w, Lib.hid ⟨fun t ht => absurd ht (Nat.not_lt_zero _), fun t h1 h2 => absurd h2 (by omega)⟩⟩
  case round =>
    obtain ⟨lo, hi, rfl, rfl, hlh, hin, hg, hd, I⟩ := hrel
    by_cases hlt : lo < hi
    · have hc := HF.out wr ((lo + hi) / 2) (by omega) hd
      rw [show (((lo + hi) / 2 : Nat) : Int) = ((lo : Int) + (hi : Int)) / 2 by omega] at hc
      cases hp : p ((lo + hi) / 2) with
      | false =>
        rw [hp] at hc
        have HP := Lib.hid hp
        have HC := Lib.hid hc
        clear hp hc
        go_wp2_with fail
        refine HC.out.mono ?_
        rintro e w1 ⟨rfl, hd1⟩
        go_wp2
        go_roundg (hi - ((lo + hi) / 2 + 1))
        case measure => omega
        case rel =>
          refine ⟨(lo + hi) / 2 + 1, hi, by rw [show ((lo : Int) + (hi : Int)) / 2 + 1 = (((lo + hi) / 2 + 1 : Nat) : Int) by omega], rfl, by omega, hin, Nat.le_refl _, hd.trans hd1, Lib.hid ⟨fun t ht => ?_, I.out.2⟩⟩
          cases h : p t with
          | false => rfl
          | true => have := HM.out t ((lo + hi) / 2) (by omega) (by omega) h; rw [HP.out] at this; cases this
      | true =>
        rw [hp] at hc
        have HP := Lib.hid hp
        have HC := Lib.hid hc
        clear hp hc
        go_wp2_with fail
        refine HC.out.mono ?_
        rintro e w1 ⟨rfl, hd1⟩
        go_wp2
        go_roundg ((lo + hi) / 2 - lo)
        case measure => omega
        case rel => exact ⟨lo, (lo + hi) / 2, rfl, by rw [show ((lo : Int) + (hi : Int)) / 2 = (((lo + hi) / 2 : Nat) : Int) by omega], by omega, by omega, Nat.le_refl _, hd.trans hd1, Lib.hid ⟨I.out.1, fun t ht htn => HM.out ((lo + hi) / 2) t ht htn HP.out⟩⟩
    · obtain rfl : hi = lo := by omega
      go_wp2
      go_ret
      exact ⟨hi, rfl, ⟨hin, I.out.1, I.out.2⟩, hd⟩
end Go.Proofs.YtdbklklmpnlinaaGreat
