/- Plain facts on pairs: the best of those that are meant is the first one of a rising list with the same pairs; Get by such a list. No program, no world. -/
import Derived.Test.YtnlghdkgejimpaaPairPrev
namespace Go.Proofs.Ytnlghdkgejimpaa
open Go.RowKit

/-- Each key is less than the next one. -/
def RiseP (ss : List (ByteArray × Int)) : Prop := ss.Pairwise fun a b => lss a.1.data.toList b.1.data.toList = true

theorem selP_spec (c : ByteArray → Bool) (bt : ByteArray → ByteArray → Bool) (nt : ∀ x y z, bt x y = false → bt y z = false → bt x z = false) (ir : ∀ x, bt x x = false) (asy : ∀ x y, bt x y = true → bt y x = false) (ps : List (ByteArray × Int)) :
    (selP c bt ps = none → ∀ p ∈ ps, c p.1 = false) ∧ (∀ b, selP c bt ps = some b → b ∈ ps ∧ c b.1 = true ∧ ∀ p ∈ ps, c p.1 = true → bt p.1 b.1 = false) := by
  unfold selP
  suffices h : ∀ (best : Option (ByteArray × Int)), (ps.foldl (selStep c bt) best = none → best = none ∧ ∀ p ∈ ps, c p.1 = false) ∧
      (∀ b, ps.foldl (selStep c bt) best = some b → (best = some b ∨ (b ∈ ps ∧ c b.1 = true)) ∧ (∀ p ∈ ps, c p.1 = true → bt p.1 b.1 = false) ∧ (∀ b0, best = some b0 → bt b0.1 b.1 = false)) by
    refine ⟨fun h0 => ((h none).1 h0).2, fun b hb => ?_⟩
    have h1 := (h none).2 b hb
    rcases h1.1 with e | e
    · cases e
    · exact ⟨e.1, e.2, h1.2.1⟩
  induction ps with
  | nil =>
    intro best
    refine ⟨fun h => ⟨h, (fun p hp => by cases hp)⟩, fun b h => ⟨Or.inl h, (fun p hp => by cases hp), fun b0 h0 => ?_⟩⟩
    have : b0 = b := by rw [List.foldl_nil] at h; rw [h] at h0; exact (Option.some.inj h0).symm
    subst this
    exact ir _
  | cons q ps ih =>
    intro best
    rw [List.foldl_cons]
    have hi := ih (selStep c bt best q)
    by_cases hc : (c q.1 && beats bt q best) = true
    · have hs : selStep c bt best q = some q := by unfold selStep; rw [if_pos hc]
      rw [hs] at hi
      have hcq : c q.1 = true := by simp only [Bool.and_eq_true] at hc; exact hc.1
      have hbq : beats bt q best = true := by simp only [Bool.and_eq_true] at hc; exact hc.2
      rw [hs]
      refine ⟨(fun h => by have := (hi.1 h).1; cases this), fun b hb => ?_⟩
      obtain ⟨h1, h2, h3⟩ := hi.2 b hb
      have hq := h3 q rfl
      refine ⟨Or.inr ?_, ?_, ?_⟩
      · rcases h1 with e | e
        · have := Option.some.inj e; subst this; exact ⟨List.mem_cons_self, hcq⟩
        · exact ⟨List.mem_cons_of_mem _ e.1, e.2⟩
      · intro p hp hcp
        rcases List.mem_cons.1 hp with rfl | hp
        · exact hq
        · exact h2 p hp hcp
      · intro b0 h0
        subst h0
        simp only [beats] at hbq
        exact nt _ _ _ (asy _ _ hbq) hq
    · have hs : selStep c bt best q = best := by unfold selStep; rw [if_neg hc]
      rw [hs] at hi ⊢
      refine ⟨fun h => ⟨(hi.1 h).1, fun p hp => ?_⟩, fun b hb => ?_⟩
      · rcases List.mem_cons.1 hp with rfl | hp
        · have hn := (hi.1 h).1
          subst hn
          cases hcp : c p.1 with
          | false => rfl
          | true => exact absurd (by simp [hcp, beats]) hc
        · exact (hi.1 h).2 p hp
      · obtain ⟨h1, h2, h3⟩ := hi.2 b hb
        refine ⟨?_, ?_, h3⟩
        · rcases h1 with e | e
          · exact Or.inl e
          · exact Or.inr ⟨List.mem_cons_of_mem _ e.1, e.2⟩
        · intro p hp hcp
          rcases List.mem_cons.1 hp with rfl | hp
          · cases hbest : best with
            | none => subst hbest; exact absurd (by simp [hcp, beats]) hc
            | some b0 =>
              have hnb : bt p.1 b0.1 = false := by
                subst hbest
                cases hx : bt p.1 b0.1 with
                | false => rfl
                | true => exact absurd (by simp [hcp, beats, hx]) hc
              have h4 := h3 b0 hbest
              exact nt _ _ _ hnb h4
          · exact h2 p hp hcp

theorem lss_nt (x y z : List UInt8) (h : lss x y = false) (k : lss y z = false) : lss x z = false := by
  cases e : lss x z with
  | false => rfl
  | true => rw [lss_le_lt y x z h e] at k; cases k

theorem rise_lt {ss : List (ByteArray × Int)} (h : RiseP ss) (i j : Nat) (hij : i < j) (hj : j < ss.length) : lss ss[i].1.data.toList ss[j].1.data.toList = true :=
  (List.pairwise_iff_getElem.1 h) i j (by omega) hj hij

/-- Two lists of the same pairs. -/
def SameS (ps ss : List (ByteArray × Int)) : Prop := ∀ p, p ∈ ps ↔ p ∈ ss

theorem next_rise {ps ss : List (ByteArray × Int)} (hs : SameS ps ss) (hr : RiseP ss) (k : ByteArray) (j : Nat) (h1 : ∀ i (h : i < ss.length), i < j → lss k.data.toList ss[i].1.data.toList = false) (h2 : ∀ i (h : i < ss.length), j ≤ i → lss k.data.toList ss[i].1.data.toList = true) :
    selP (nextC k) nextB ps = ss[j]? := by
  have hsp := selP_spec (nextC k) nextB (fun x y z => lss_nt _ _ _) (fun x => lss_irrefl _) (fun x y => lss_asymm _ _) ps
  cases hb : selP (nextC k) nextB ps with
  | none =>
    by_cases hj : j < ss.length
    · have := hsp.1 hb ss[j] ((hs _).2 (List.getElem_mem hj))
      unfold nextC at this
      rw [h2 j hj (Nat.le_refl _)] at this
      cases this
    · rw [List.getElem?_eq_none (by omega)]
  | some b =>
    obtain ⟨hm, hc, hbest⟩ := hsp.2 b hb
    obtain ⟨i, hi, rfl⟩ := List.getElem_of_mem ((hs _).1 hm)
    have hij : j ≤ i := by
      by_cases g : i < j
      · unfold nextC at hc
        rw [h1 i hi g] at hc; cases hc
      · omega
    by_cases e : i = j
    · subst e; rw [List.getElem?_eq_getElem hi]
    · have hj : j < ss.length := by omega
      have h3 := hbest ss[j] ((hs _).2 (List.getElem_mem hj)) (h2 j hj (Nat.le_refl _))
      unfold nextB at h3
      rw [rise_lt hr j i (by omega) hi] at h3
      cases h3

theorem prev_rise {ps ss : List (ByteArray × Int)} (hs : SameS ps ss) (hr : RiseP ss) (k : ByteArray) (j : Nat) (hj : j ≤ ss.length) (h1 : ∀ i (h : i < ss.length), i < j → lss ss[i].1.data.toList k.data.toList = true) (h2 : ∀ i (h : i < ss.length), j ≤ i → lss ss[i].1.data.toList k.data.toList = false) :
    selP (prevC k) prevB ps = if j = 0 then none else ss[j - 1]? := by
  have hsp := selP_spec (prevC k) prevB (fun x y z h g => lss_nt _ _ _ g h) (fun x => lss_irrefl _) (fun x y => lss_asymm _ _) ps
  cases hb : selP (prevC k) prevB ps with
  | none =>
    by_cases hj0 : j = 0
    · rw [if_pos hj0]
    · have := hsp.1 hb ss[j - 1] ((hs _).2 (List.getElem_mem (by omega)))
      unfold prevC at this
      rw [h1 (j - 1) (by omega) (by omega)] at this
      cases this
  | some b =>
    obtain ⟨hm, hc, hbest⟩ := hsp.2 b hb
    obtain ⟨i, hi, rfl⟩ := List.getElem_of_mem ((hs _).1 hm)
    have hij : i < j := by
      by_cases g : j ≤ i
      · unfold prevC at hc
        rw [h2 i hi g] at hc; cases hc
      · omega
    rw [if_neg (by omega)]
    by_cases e : i = j - 1
    · subst e; rw [List.getElem?_eq_getElem hi]
    · have hj1 : j - 1 < ss.length := by omega
      have h3 := hbest ss[j - 1] ((hs _).2 (List.getElem_mem hj1)) (h1 (j - 1) hj1 (by omega))
      unfold prevB at h3
      rw [rise_lt hr i (j - 1) (by omega) hj1] at h3
      cases h3

theorem max_rise {ps ss : List (ByteArray × Int)} (hs : SameS ps ss) (hr : RiseP ss) (k : ByteArray) : selP (prevTC k) prevTB ps = if ss.length = 0 then none else ss[ss.length - 1]? := by
  have hsp := selP_spec (prevTC k) prevTB (fun x y z h g => lss_nt _ _ _ g h) (fun x => lss_irrefl _) (fun x y => lss_asymm _ _) ps
  cases hb : selP (prevTC k) prevTB ps with
  | none =>
    by_cases hj0 : ss.length = 0
    · rw [if_pos hj0]
    · have := hsp.1 hb ss[ss.length - 1] ((hs _).2 (List.getElem_mem (by omega)))
      unfold prevTC at this
      cases this
  | some b =>
    obtain ⟨hm, _, hbest⟩ := hsp.2 b hb
    obtain ⟨i, hi, rfl⟩ := List.getElem_of_mem ((hs _).1 hm)
    rw [if_neg (by omega)]
    by_cases e : i = ss.length - 1
    · subst e; rw [List.getElem?_eq_getElem hi]
    · have hj1 : ss.length - 1 < ss.length := by omega
      have h3 := hbest ss[ss.length - 1] ((hs _).2 (List.getElem_mem hj1)) (by unfold prevTC; rfl)
      unfold prevTB at h3
      rw [rise_lt hr i (ss.length - 1) (by omega) hj1] at h3
      cases h3

/-- In a list of which each key is there once, Get tells what it has. -/
theorem rise_one {ss : List (ByteArray × Int)} (hr : RiseP ss) {p q : ByteArray × Int} (hp : p ∈ ss) (hq : q ∈ ss) (e : p.1 = q.1) : p = q := by
  obtain ⟨i, hi, rfl⟩ := List.getElem_of_mem hp
  obtain ⟨j, hj, rfl⟩ := List.getElem_of_mem hq
  rcases Nat.lt_trichotomy i j with h | h | h
  · have := rise_lt hr i j h hj
    rw [e, lss_irrefl] at this; cases this
  · subst h; rfl
  · have := rise_lt hr j i h hi
    rw [e, lss_irrefl] at this; cases this

theorem getP_mem {ps : List (ByteArray × Int)} {k : ByteArray} {z : Int} (h : getP ps k = (z, true)) : (k, z) ∈ ps := by
  unfold getP at h
  cases hf : ps.find? (fun p => decide (p.1 = k)) with
  | none => rw [hf] at h; simp at h
  | some p =>
    rw [hf] at h
    have h1 : p.2 = z := by simpa using h
    have h2 := List.find?_some hf
    have h3 := List.mem_of_find?_eq_some hf
    have h4 : p.1 = k := by simpa using h2
    rw [← h1, ← h4]
    exact h3

theorem getP_none {ps : List (ByteArray × Int)} {k : ByteArray} (h : (getP ps k).2 = false) : ∀ p ∈ ps, p.1 ≠ k := by
  unfold getP at h
  cases hf : ps.find? (fun p => decide (p.1 = k)) with
  | none =>
    rw [List.find?_eq_none] at hf
    intro p hp e
    have := hf p hp
    simp [e] at this
  | some p => rw [hf] at h; cases h
end Go.Proofs.Ytnlghdkgejimpaa
