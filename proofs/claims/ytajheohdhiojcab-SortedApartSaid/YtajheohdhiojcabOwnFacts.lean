/- Rows that lie in blocks of their own: kept where others are written; what Add, Cut, Set, Part and Join make, as such rows. No walk. -/
import Derived.Test.YtajheohdhiojcabIntRows
namespace Go.Proofs.Ytajheohdhiojcab
open Go.RowKit

section
variable {w w' : World} {base n : Nat} {e : TypeId} {v : Value} {xs : List Value}

theorem own_keep (h : w.ownsRow base e 1 v n xs) (hb : Below w.heap.size w w') : w'.ownsRow base e 1 v n xs := by
  refine ⟨h.1, ?_⟩
  rcases h.2 with hn | ⟨g, cap, cur, rfl, hbg, hg, rest⟩
  · exact Or.inl hn
  · exact Or.inr ⟨g, cap, cur, rfl, hbg, by rw [hb.block g (lt_of_block hg)]; exact hg, rest⟩

/-- Rows of unlike elements never share a block. -/
theorem own_apart {base' n' : Nat} {e' : TypeId} {v' : Value} {xs' : List Value} (h : w.ownsRow base e 1 v n xs) (h' : w.ownsRow base' e' 1 v' n' xs') (hne : e ≠ e') : v.ownBlock = none ∨ v.ownBlock ≠ v'.ownBlock := by
  rcases h.2 with ⟨rfl, _⟩ | ⟨g, cap, cur, rfl, _, hg, _⟩
  · exact Or.inl rfl
  · right
    rcases h'.2 with ⟨rfl, _⟩ | ⟨g', cap', cur', rfl, _, hg', _⟩
    · simp [Value.ownBlock]
    · intro he
      have : g = g' := by simpa [Value.ownBlock] using he
      subst this
      rw [hg] at hg'
      injection hg' with hg'
      injection hg' with _ ht
      exact hne ht

/-- A row from a number on is apart from a block below it. -/
theorem own_above (h : w.ownsRow base e 1 v n xs) {k : Nat} (hk : k < base) : v.ownBlock = none ∨ v.ownBlock ≠ some k := by
  rcases h.2 with ⟨rfl, _⟩ | ⟨g, cap, cur, rfl, hbg, _⟩
  · exact Or.inl rfl
  · right
    simp [Value.ownBlock]
    omega

theorem own_open (h : w.ownsRow base e 1 v n xs) : ∃ ao c, v = .slice ao n c ∧ (ao = none → c = 0) := by
  rcases h.2 with ⟨rfl, rfl⟩ | ⟨g, cap, cur, rfl, _⟩
  · exact ⟨none, 0, rfl, fun _ => rfl⟩
  · exact ⟨_, cap, rfl, fun h => by cases h⟩

theorem own_at {ao : Option Addr} {c : Nat} (h : w.ownsRow base e 1 (.slice ao n c) n xs) (i : Nat) (hi : i < n) : ∃ g, ao = some ⟨g, 0, none⟩ ∧ base ≤ g ∧ g < w.heap.size ∧ ∀ j, j < n → w.cell? ⟨g, j, none⟩ = xs[j]? := by
  rcases h.2 with ⟨hn, hz⟩ | ⟨g, cap, cur, hv, hb, hg, _⟩
  · omega
  · injection hv with e1 e2 e3
    subst e1 e3
    exact ⟨g, rfl, hb, lt_of_block hg, fun j hj => h.cellAt j (by omega)⟩

theorem own_len (h : w.ownsRow base e 1 v n xs) : xs.length = n := by have := h.1; omega
end

theorem grown_trans {a b c : World} {row : Option Nat} (h : a.grownBy b row) (k : b.grownBy c row) : a.grownBy c row :=
  ⟨k.os.trans h.os, k.tape.trans h.tape, k.output.trans h.output, Nat.le_trans h.size k.size, fun i hi hne => (k.block i (Nat.lt_of_lt_of_le hi h.size) hne).trans (h.block i hi hne)⟩

theorem own_of_whole {w : World} {base : Nat} {e : TypeId} {g : Nat} {xs : List Value} (h : Whole w e g xs) (hb : base ≤ g) (hl : xs.length ≤ maxLen) : w.ownsRow base e 1 (.slice (some ⟨g, 0, none⟩) xs.length xs.length) xs.length xs :=
  ⟨by omega, Or.inr ⟨g, xs.length, xs.toArray, rfl, hb, h, Nat.le_refl _, hl, by simp, by simp⟩⟩

theorem NewOrNone.owns {w w' : World} {v : Value} {zs : List Int} (h : NewOrNone w w' v zs) (hl : zs.length ≤ 549755813888) : w'.ownsRow w.heap.size 3 1 v zs.length (vals zs) := by
  rcases h with ⟨g, rfl, h⟩ | ⟨rfl, rfl, rfl⟩
  · have := own_of_whole (base := w.heap.size) h.2.1 h.1 (by rw [vals_len]; unfold maxLen; omega)
    rwa [vals_len] at this
  · exact World.ownsRow_nil _ _ _ _

/-- What Add, Cut and Set tell: a row in new memory, or nothing. -/
def SomeRow (w w' : World) (e : Ending) : Prop := ∃ (v : Value) (b : Bool) (zs : List Int), e = .returned (.tuple #[v, .bool b]) ∧ zs.length ≤ 1000 ∧ w'.ownsRow w.heap.size 3 1 v zs.length (vals zs) ∧ Below w.heap.size w w'

theorem new_some {w w' : World} {v : Value} {zs : List Int} (h : NewOrNone w w' v zs) (hl : zs.length ≤ 1000) (b : Bool) : SomeRow w w' (.returned (.tuple #[v, .bool b])) :=
  ⟨v, b, zs, rfl, hl, h.owns (by omega), h.below⟩

theorem addU (v : Value) (a x : Int) (zs : List Int) (w : World) (hr : Rd w v (vals zs)) (hn : zs.length ≤ 100) : Calls Try.prog 7 #[v, .int .i64 a, .int .i64 x] w fun e w' => SomeRow w w' e := by
  by_cases h : a < 0 ∨ (zs.length : Int) < a
  · refine (addI_no v a x zs w hr (by omega) h).mono ?_
    rintro e w' ⟨rfl, rfl⟩
    exact new_some (Or.inr ⟨rfl, rfl, rfl⟩) (by simp) false
  · obtain ⟨k, rfl⟩ : ∃ k : Nat, a = k := ⟨a.toNat, by omega⟩
    refine (addI_yes v k x zs w hr (by omega) (by omega)).mono ?_
    rintro e w' ⟨g, rfl, hw⟩
    have hl := len_ins (zs := zs) (at_ := k) (x := x) (by omega)
    exact new_some (Or.inl ⟨g, by rw [hl], hw⟩) (by rw [hl]; omega) true

theorem cutU (v : Value) (a : Int) (zs : List Int) (w : World) (hr : Rd w v (vals zs)) (hn : zs.length ≤ 100) : Calls Try.prog 8 #[v, .int .i64 a] w fun e w' => SomeRow w w' e := by
  by_cases h : a < 0 ∨ (zs.length : Int) ≤ a
  · refine (cutI_no v a zs w hr (by omega) h).mono ?_
    rintro e w' ⟨rfl, rfl⟩
    exact new_some (Or.inr ⟨rfl, rfl, rfl⟩) (by simp) false
  · obtain ⟨k, rfl⟩ : ∃ k : Nat, a = k := ⟨a.toNat, by omega⟩
    refine (cutI_yes v k zs w hr (by omega) (by omega)).mono ?_
    rintro e w' ⟨g, rfl, hw⟩
    have hl := len_cut (zs := zs) (at_ := k) (by omega)
    exact new_some (Or.inl ⟨g, rfl, hw⟩) (by omega) true

theorem setU (v : Value) (a x : Int) (zs : List Int) (w : World) (hr : Rd w v (vals zs)) (hn : zs.length ≤ 100) : Calls Try.prog 9 #[v, .int .i64 a, .int .i64 x] w fun e w' => SomeRow w w' e := by
  by_cases h : a < 0 ∨ (zs.length : Int) ≤ a
  · refine (setI_no v a x zs w hr (by omega) h).mono ?_
    rintro e w' ⟨rfl, rfl⟩
    exact new_some (Or.inr ⟨rfl, rfl, rfl⟩) (by simp) false
  · obtain ⟨k, rfl⟩ : ∃ k : Nat, a = k := ⟨a.toNat, by omega⟩
    refine (setI_yes v k x zs w hr (by omega) (by omega)).mono ?_
    rintro e w' ⟨g, rfl, hw⟩
    have hl := len_set (zs := zs) (at_ := k) (x := x) (by omega)
    exact new_some (Or.inl ⟨g, by rw [hl], hw⟩) (by rw [hl]; omega) true

theorem partU (v : Value) (f t : Int) (zs : List Int) (w : World) (hr : Rd w v (vals zs)) (hn : zs.length ≤ 100) : Calls Try.prog 10 #[v, .int .i64 f, .int .i64 t] w fun e w' => ∃ (u : Value) (ys : List Int), e = .returned u ∧ ys.length ≤ 1000 ∧ w'.ownsRow w.heap.size 3 1 u ys.length (vals ys) ∧ Below w.heap.size w w' := by
  refine (partI_any v f t zs w hr (by omega)).mono ?_
  rintro e w' ⟨u, rfl, h⟩
  have hl := len_part zs (max f 0).toNat (min t zs.length).toNat
  exact ⟨u, _, rfl, by omega, h.owns (by omega), h.below⟩

theorem joinU (v : Value) (zs : List Int) (w : World) (hr : Rd w v (vals zs)) (hn : zs.length ≤ 100) : Calls Try.prog 11 #[v, .slice none 0 0] w fun e w' => ∃ (g : Nat), e = .returned (.slice (some ⟨g, 0, none⟩) zs.length zs.length) ∧ w'.ownsRow w.heap.size 3 1 (.slice (some ⟨g, 0, none⟩) zs.length zs.length) zs.length (vals zs) ∧ Below w.heap.size w w' := by
  refine (joinI_any v (.slice none 0 0) zs [] w hr (Rd.nil w) (by simp; omega)).mono ?_
  rintro e w' ⟨g, rfl, hw⟩
  rw [List.append_nil] at hw
  have := NewOrNone.owns (v := .slice (some ⟨g, 0, none⟩) zs.length zs.length) (Or.inl ⟨g, rfl, hw⟩) (by omega)
  exact ⟨g, rfl, this, hw.2.2⟩
end Go.Proofs.Ytajheohdhiojcab
