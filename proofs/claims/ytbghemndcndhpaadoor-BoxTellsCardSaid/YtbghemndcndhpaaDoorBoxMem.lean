/- Boxes and items as they lie in memory: what keeps them. No walk. -/
import Derived.Test.YtbghemndcndhpaaDoorBoxMath
import Derived.Test.YtbghemndcndhpaaDoorRowFacts
namespace Go.Proofs.YtbghemndcndhpaaDoor
open Go.RowKit

/-- An item. -/
inductive Itm where
  | mk (kind n : Int) (s : ByteArray) (l : List Itm) : Itm

theorem Itm.ind {P : Itm → Prop} (h : ∀ k n s l, (∀ x ∈ l, P x) → P (.mk k n s l)) (x : Itm) : P x :=
  Itm.rec (motive_1 := P) (motive_2 := fun l => ∀ x ∈ l, P x) h (by intro x hx; cases hx) (fun x l hx hl y hy => by
    rcases List.mem_cons.1 hy with rfl | hy
    · exact hx
    · exact hl y hy) x

mutual
def bxI : Itm → Bx
  | .mk k n s l => if k = 1 then .truth (decide (n % 2 = 1)) else if k = 2 then .number n.toNat else if k = 3 then .text s else if k = 4 then .list (bxIs l) else .nothing
def bxIs : List Itm → List Bx
  | [] => []
  | x :: l => bxI x :: bxIs l
end
theorem bxIs_map (l : List Itm) : bxIs l = l.map bxI := by
  induction l with
  | nil => rfl
  | cons x l ih => rw [bxIs, ih]; rfl

mutual
def wI : Itm → Nat
  | .mk _ _ s l => 1 + s.size + wIs l
def wIs : List Itm → Nat
  | [] => 0
  | x :: l => wI x + wIs l
end

mutual
/-- All numbers are numbers. -/
def okI : Itm → Prop
  | .mk _ n s l => (0 ≤ n ∧ n < 18446744073709551616) ∧ s.size ≤ 9223372036854775807 ∧ okIs l
def okIs : List Itm → Prop
  | [] => True
  | x :: l => okI x ∧ okIs l
end

mutual
/-- Each kind is one. -/
def vI : Itm → Prop
  | .mk k _ _ l => (0 ≤ k ∧ k ≤ 4) ∧ (k = 4 → vIs l)
def vIs : List Itm → Prop
  | [] => True
  | x :: l => vI x ∧ vIs l
end

theorem okIs_iff (l : List Itm) : okIs l ↔ ∀ x ∈ l, okI x := by
  induction l with
  | nil => simp [okIs]
  | cons b l ih => rw [okIs, ih]; simp
theorem vIs_iff (l : List Itm) : vIs l ↔ ∀ x ∈ l, vI x := by
  induction l with
  | nil => simp [vIs]
  | cons b l ih => rw [vIs, ih]; simp

theorem ok_bx (x : Itm) : okI x → okB (bxI x) := by
  induction x using Itm.ind with
  | h k n s l ih =>
    intro h
    rw [okI, okIs_iff] at h
    rw [bxI]
    by_cases h1 : k = 1
    · rw [if_pos h1]; simp [okB]
    rw [if_neg h1]
    by_cases h2 : k = 2
    · rw [if_pos h2, okB]; omega
    rw [if_neg h2]
    by_cases h3 : k = 3
    · rw [if_pos h3]; simp [okB]
    rw [if_neg h3]
    by_cases h4 : k = 4
    · rw [if_pos h4, okB, okL_iff, bxIs_map]
      intro b hb
      obtain ⟨y, hy, rfl⟩ := List.mem_map.1 hb
      exact ih y hy (h.2.2 y hy)
    · rw [if_neg h4]; simp [okB]

theorem wIs_bx {l : List Itm} (h : ∀ x ∈ l, wB (bxI x) ≤ wI x) : wL (bxIs l) ≤ wIs l := by
  induction l with
  | nil => simp [bxIs, wL]
  | cons x l ih =>
    rw [bxIs, wL, wIs]
    have h1 := h x List.mem_cons_self
    have h2 := ih (fun y hy => h y (List.mem_cons_of_mem _ hy))
    omega

theorem w_bx (x : Itm) : wB (bxI x) ≤ wI x := by
  induction x using Itm.ind with
  | h k n s l ih =>
    rw [bxI, wI]
    by_cases h1 : k = 1
    · rw [if_pos h1, wB]; omega
    rw [if_neg h1]
    by_cases h2 : k = 2
    · rw [if_pos h2, wB]; omega
    rw [if_neg h2]
    by_cases h3 : k = 3
    · rw [if_pos h3, wB]; omega
    rw [if_neg h3]
    by_cases h4 : k = 4
    · rw [if_pos h4, wB]; have := wIs_bx ih; omega
    · rw [if_neg h4, wB]; omega

mutual
/-- An item's value, and its lists in blocks of S. -/
def Sits (S : Nat → Prop) (w : World) : Itm → Value → Prop
  | .mk k n s l, v => ∃ ao c, v = .agg #[.int .i64 k, .int .u64 n, .string s, .slice ao l.length c] ∧ (l.length ≤ c ∧ c ≤ 9223372036854775807) ∧ (l = [] ∨ ∃ b o, ao = some ⟨b, o, none⟩ ∧ S b ∧ SitsL S w b o l)
def SitsL (S : Nat → Prop) (w : World) (b : Nat) : Nat → List Itm → Prop
  | _, [] => True
  | o, x :: l => (∃ v0 v1 v2 v3, w.cell? ⟨b, o, none⟩ = some v0 ∧ w.cell? ⟨b, o + 1, none⟩ = some v1 ∧ w.cell? ⟨b, o + 2, none⟩ = some v2 ∧ w.cell? ⟨b, o + 3, none⟩ = some v3 ∧ Sits S w x (.agg #[v0, v1, v2, v3])) ∧ SitsL S w b (o + 4) l
end

theorem SitsL.at_ {S : Nat → Prop} {w : World} {b : Nat} : ∀ {l : List Itm} {o : Nat}, SitsL S w b o l → ∀ i (hi : i < l.length), ∃ v0 v1 v2 v3, w.cell? ⟨b, o + i * 4, none⟩ = some v0 ∧ w.cell? ⟨b, o + i * 4 + 1, none⟩ = some v1 ∧ w.cell? ⟨b, o + i * 4 + 2, none⟩ = some v2 ∧ w.cell? ⟨b, o + i * 4 + 3, none⟩ = some v3 ∧ Sits S w l[i] (.agg #[v0, v1, v2, v3])
  | [], _, _, i, hi => absurd hi (by simp)
  | x :: l, o, h, 0, _ => by
    rw [SitsL] at h
    simpa using h.1
  | x :: l, o, h, i + 1, hi => by
    rw [SitsL] at h
    have := SitsL.at_ h.2 i (by simpa using hi)
    rw [show o + (i + 1) * 4 = o + 4 + i * 4 by omega]
    exact this

mutual
theorem Sits.keep {S T : Nat → Prop} {w w' : World} (hs : ∀ b, S b → b < w.heap.size → T b ∧ w'.heap[b]? = w.heap[b]?) : ∀ (x : Itm) (v : Value), Sits S w x v → Sits T w' x v
  | .mk k n s l, v, h => by
    rw [Sits] at h ⊢
    obtain ⟨ao, c, e, hc, hl⟩ := h
    refine ⟨ao, c, e, hc, ?_⟩
    cases l with
    | nil => exact Or.inl rfl
    | cons x l =>
      rcases hl with h0 | ⟨b, o, e2, hb, hl⟩
      · cases h0
      · have hlt : b < w.heap.size := by
          rw [SitsL] at hl
          obtain ⟨⟨v0, _, _, _, h0, _⟩, _⟩ := hl
          exact World.block_lt_of_cell? w _ h0
        exact Or.inr ⟨b, o, e2, (hs b hb hlt).1, SitsL.keep hs b (hs b hb hlt).2 o (x :: l) hl⟩
theorem SitsL.keep {S T : Nat → Prop} {w w' : World} (hs : ∀ b, S b → b < w.heap.size → T b ∧ w'.heap[b]? = w.heap[b]?) (b : Nat) (hb : w'.heap[b]? = w.heap[b]?) : ∀ (o : Nat) (l : List Itm), SitsL S w b o l → SitsL T w' b o l
  | o, [], _ => by rw [SitsL]; trivial
  | o, x :: l, h => by
    rw [SitsL] at h ⊢
    obtain ⟨⟨v0, v1, v2, v3, h0, h1, h2, h3, hx⟩, hl⟩ := h
    have hc : ∀ j, w'.cell? ⟨b, j, none⟩ = w.cell? ⟨b, j, none⟩ := fun j => World.cell?_of_block (a := ⟨b, j, none⟩) hb
    exact ⟨⟨v0, v1, v2, v3, (hc _).trans h0, (hc _).trans h1, (hc _).trans h2, (hc _).trans h3, Sits.keep hs x _ hx⟩, SitsL.keep hs b hb (o + 4) l hl⟩
end

theorem Sits.below {S : Nat → Prop} {w w' : World} {x : Itm} {v : Value} (h : Sits S w x v) (hb : Below w.heap.size w w') : Sits S w' x v :=
  Sits.keep (fun b hs hlt => ⟨hs, hb.block b hlt⟩) x v h

theorem Sits.mono {S T : Nat → Prop} {w : World} {x : Itm} {v : Value} (h : Sits S w x v) (hT : ∀ b, S b → b < w.heap.size → T b) : Sits T w x v :=
  Sits.keep (fun b hs hlt => ⟨hT b hs hlt, rfl⟩) x v h

mutual
/-- A box's value, and its lists in blocks of S. -/
def BoxIs (S : Nat → Prop) (w : World) : Bx → Value → Prop
  | .nothing, v => v = .nilIface
  | .truth b, v => v = .iface 4 (.bool b)
  | .number n, v => v = .iface 22 (.int .u64 n)
  | .text s, v => v = .iface 9 (.string s)
  | .list l, v => ∃ g, v = .iface 58 (.agg #[.slice (some ⟨g, 0, none⟩) l.length l.length, .int .i64 (maxD l + 1 : Nat)]) ∧ S g ∧ BoxL S w g 0 l
def BoxL (S : Nat → Prop) (w : World) (g : Nat) : Nat → List Bx → Prop
  | _, [] => True
  | o, b :: l => (∃ v, w.cell? ⟨g, o, none⟩ = some v ∧ BoxIs S w b v) ∧ BoxL S w g (o + 1) l
end

theorem BoxL.at_ {S : Nat → Prop} {w : World} {g : Nat} : ∀ {l : List Bx} {o : Nat}, BoxL S w g o l → ∀ i (hi : i < l.length), ∃ v, w.cell? ⟨g, o + i, none⟩ = some v ∧ BoxIs S w l[i] v
  | [], _, _, i, hi => absurd hi (by simp)
  | x :: l, o, h, 0, _ => by
    rw [BoxL] at h
    simpa using h.1
  | x :: l, o, h, i + 1, hi => by
    rw [BoxL] at h
    have := BoxL.at_ h.2 i (by simpa using hi)
    rw [show o + (i + 1) = o + 1 + i by omega]
    exact this

theorem BoxL.mk {S : Nat → Prop} {w : World} {g : Nat} : ∀ {l : List Bx} {o : Nat}, (∀ i (hi : i < l.length), ∃ v, w.cell? ⟨g, o + i, none⟩ = some v ∧ BoxIs S w l[i] v) → BoxL S w g o l
  | [], _, _ => by rw [BoxL]; trivial
  | x :: l, o, h => by
    rw [BoxL]
    refine ⟨by have h0 := h 0 (by simp); rw [Nat.add_zero] at h0; exact h0, BoxL.mk (fun i hi => ?_)⟩
    have := h (i + 1) (by simpa using hi)
    rw [show o + (i + 1) = o + 1 + i by omega] at this
    exact this

mutual
theorem BoxIs.keep {S T : Nat → Prop} {w w' : World} (hs : ∀ b, S b → T b ∧ (b < w.heap.size → w'.heap[b]? = w.heap[b]?)) : ∀ (x : Bx) (v : Value), BoxIs S w x v → BoxIs T w' x v
  | .nothing, v, h => by rw [BoxIs] at h ⊢; exact h
  | .truth _, v, h => by rw [BoxIs] at h ⊢; exact h
  | .number _, v, h => by rw [BoxIs] at h ⊢; exact h
  | .text _, v, h => by rw [BoxIs] at h ⊢; exact h
  | .list l, v, h => by
    rw [BoxIs] at h ⊢
    obtain ⟨g, e, hg, hl⟩ := h
    exact ⟨g, e, (hs g hg).1, BoxL.keep hs g (hs g hg).2 0 l hl⟩
theorem BoxL.keep {S T : Nat → Prop} {w w' : World} (hs : ∀ b, S b → T b ∧ (b < w.heap.size → w'.heap[b]? = w.heap[b]?)) (g : Nat) (hg : g < w.heap.size → w'.heap[g]? = w.heap[g]?) : ∀ (o : Nat) (l : List Bx), BoxL S w g o l → BoxL T w' g o l
  | o, [], _ => by rw [BoxL]; trivial
  | o, x :: l, h => by
    rw [BoxL] at h ⊢
    obtain ⟨⟨v, h0, hx⟩, hl⟩ := h
    have hlt : g < w.heap.size := World.block_lt_of_cell? w _ h0
    exact ⟨⟨v, (World.cell?_of_block (a := ⟨g, o, none⟩) (hg hlt)).trans h0, BoxIs.keep hs x _ hx⟩, BoxL.keep hs g hg (o + 1) l hl⟩
end

theorem BoxIs.below {S : Nat → Prop} {w w' : World} {x : Bx} {v : Value} (h : BoxIs S w x v) (hb : Below w.heap.size w w') : BoxIs S w' x v :=
  BoxIs.keep (fun b hs => ⟨hs, fun hlt => hb.block b hlt⟩) x v h
theorem BoxIs.mono {S T : Nat → Prop} {w : World} {x : Bx} {v : Value} (h : BoxIs S w x v) (hT : ∀ b, S b → T b) : BoxIs T w x v :=
  BoxIs.keep (fun b hs => ⟨hT b hs, fun _ => rfl⟩) x v h

theorem BoxIs.form {S : Nat → Prop} {w : World} {x : Bx} {v : Value} (h : BoxIs S w x v) : v = .nilIface ∨ ∃ t u, v = .iface t u := by
  cases x with
  | nothing => rw [BoxIs] at h; exact Or.inl h
  | truth _ => rw [BoxIs] at h; exact Or.inr ⟨_, _, h⟩
  | number _ => rw [BoxIs] at h; exact Or.inr ⟨_, _, h⟩
  | text _ => rw [BoxIs] at h; exact Or.inr ⟨_, _, h⟩
  | list l => rw [BoxIs] at h; obtain ⟨g, h, _⟩ := h; exact Or.inr ⟨_, _, h⟩

/-- A slice value that reads as boxes. -/
def RdB (S : Nat → Prop) (w : World) (v : Value) (bs : List Bx) : Prop := ∃ xs, Rd w v xs ∧ xs.length = bs.length ∧ ∀ i (h : i < bs.length) (h2 : i < xs.length), BoxIs S w bs[i] xs[i]
end Go.Proofs.YtbghemndcndhpaaDoor
