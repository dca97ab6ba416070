/- Rows of pairs: what a slice of them reads as; bowerref06.Get. Condition: at most 2^38 pairs. -/
import Derived.Test.YtnlghdkgejimpaaRowFacts
import Derived.Test.YtnlghdkgejimpaaKeyLess
namespace Go.Proofs.Ytnlghdkgejimpaa
open Go.RowKit

/-- The pair at a place. -/
def ntp (ps : List (ByteArray × Int)) (i : Nat) : ByteArray × Int := ps.getD i (⟨#[]⟩, 0)

theorem ntp_eq {ps : List (ByteArray × Int)} {i : Nat} (h : i < ps.length) : ntp ps i = ps[i] := by
  unfold ntp
  rw [List.getD_eq_getElem?_getD, List.getElem?_eq_getElem h]; rfl

/-- A slice value that reads as pairs, two cells each. -/
def RdP (w : World) (v : Value) (ps : List (ByteArray × Int)) : Prop :=
  ∃ ao c, v = .slice ao ps.length c ∧ ps.length ≤ c ∧ c ≤ 9223372036854775807 ∧ (0 < ps.length → ∃ g o, ao = some ⟨g, o, none⟩ ∧ ∀ j, j < ps.length → w.cell? ⟨g, o + j * 2, none⟩ = some (.string (ntp ps j).1) ∧ w.cell? ⟨g, o + j * 2 + 1, none⟩ = some (.int .u64 (ntp ps j).2))

theorem RdP.open {w : World} {v : Value} {ps : List (ByteArray × Int)} (h : RdP w v ps) : ∃ ao c, v = .slice ao ps.length c := by
  obtain ⟨ao, c, h1, _⟩ := h
  exact ⟨ao, c, h1⟩

theorem RdP.len {w : World} {ao : Option Addr} {n c : Nat} {ps : List (ByteArray × Int)} (h : RdP w (.slice ao n c) ps) : ps.length = n ∧ n ≤ c ∧ c ≤ 9223372036854775807 := by
  obtain ⟨ao', c', h1, h2, h3, h4⟩ := h
  injection h1 with e1 e2 e3
  omega

theorem RdP.at_ {w : World} {ao : Option Addr} {n c : Nat} {ps : List (ByteArray × Int)} (h : RdP w (.slice ao n c) ps) (i : Nat) (hi : i < n) :
    ∃ g o, ao = some ⟨g, o, none⟩ ∧ ∀ j, j < n → w.cell? ⟨g, o + j * 2, none⟩ = some (.string (ntp ps j).1) ∧ w.cell? ⟨g, o + j * 2 + 1, none⟩ = some (.int .u64 (ntp ps j).2) := by
  have hl := h.len
  obtain ⟨ao', c', h1, h2, h3, h4⟩ := h
  injection h1 with e1 e2 e3
  subst e1
  obtain ⟨g, o, e, hc⟩ := h4 (by omega)
  exact ⟨g, o, e, fun j hj => hc j (by omega)⟩

theorem RdP.keep {w w' : World} {v : Value} {ps : List (ByteArray × Int)} (h : RdP w v ps) (hb : Below w.heap.size w w') : RdP w' v ps := by
  obtain ⟨ao, c, h1, h2, h3, h4⟩ := h
  refine ⟨ao, c, h1, h2, h3, fun hp => ?_⟩
  obtain ⟨g, o, e, hc⟩ := h4 hp
  refine ⟨g, o, e, fun j hj => ?_⟩
  have hlt : g < w.heap.size := World.block_lt_of_cell? w _ (hc j hj).1
  exact ⟨(hb.cell (p := ⟨g, o + j * 2, none⟩) hlt).trans (hc j hj).1, (hb.cell (p := ⟨g, o + j * 2 + 1, none⟩) hlt).trans (hc j hj).2⟩

theorem txt_ne {a b : ByteArray} (h : a ≠ b) : (a.toList == b.toList) = false := by
  rw [beq_eq_false_iff_ne, ByteArray.toList_eq, ByteArray.toList_eq]
  intro e
  apply h
  apply ByteArray.ext
  apply Array.ext'
  exact e
theorem txt_eq {a b : ByteArray} (h : a = b) : (a.toList == b.toList) = true := by rw [h]; simp

/-- What a row of pairs has of a key: the first one. -/
def getP (ps : List (ByteArray × Int)) (k : ByteArray) : Int × Bool := match ps.find? (fun p => decide (p.1 = k)) with | some p => (p.2, true) | none => (0, false)

theorem getP_at {ps : List (ByteArray × Int)} {k : ByteArray} (i : Nat) (hi : i < ps.length) (hall : ∀ j, j < i → (ntp ps j).1 ≠ k) (he : (ntp ps i).1 = k) : getP ps k = ((ntp ps i).2, true) := by
  unfold getP
  have : ps.find? (fun p => decide (p.1 = k)) = some ps[i] := by
    rw [List.find?_eq_some_iff_getElem]
    refine ⟨by rw [← ntp_eq hi]; simpa using he, i, hi, rfl, fun j hj => ?_⟩
    have := hall j hj
    rw [ntp_eq (by omega)] at this
    simpa using this
  rw [this, ntp_eq hi]

theorem getP_no {ps : List (ByteArray × Int)} {k : ByteArray} (hall : ∀ j, j < ps.length → (ntp ps j).1 ≠ k) : getP ps k = (0, false) := by
  unfold getP
  have : ps.find? (fun p => decide (p.1 = k)) = none := by
    rw [List.find?_eq_none]
    intro p hp
    obtain ⟨j, hj, rfl⟩ := List.getElem_of_mem hp
    have := hall j hj
    rw [ntp_eq hj] at this
    simpa using this
  rw [this]

set_option maxHeartbeats 1000000 in
theorem rget_any (v : Value) (k : ByteArray) (ps : List (ByteArray × Int)) (w : World) (hr : RdP w v ps) :
    Calls Try.prog 56 #[v, .string k] w fun e w' => e = .returned (.tuple #[.int .u64 (getP ps k).1, .bool (getP ps k).2]) ∧ w' = w := by
  obtain ⟨ao, c, rfl⟩ := hr.open
  have hi0 := hr.len
  have hnc := hi0.2.1
  have hcb := hi0.2.2
  have HR := Lib.hid hr
  have HE := Lib.hid (fun i hi hall he => getP_at (ps := ps) (k := k) i hi hall he)
  have HN := Lib.hid (fun hall => getP_no (ps := ps) (k := k) hall)
  clear hr hi0
  obtain ⟨n, hL⟩ : ∃ n, n = ps.length := ⟨_, rfl⟩
  rw [← hL] at HR hnc HE HN ⊢
  generalize getP ps k = r at *
  clear hL
  go_enter Try.func56, Try.ntmps56
  go_wp2
  go_loop [6] (fun s => ∃ i : Nat, s = .int .i64 i ∧ i ≤ n ∧ Hid (∀ j, j < i → (ntp ps j).1 ≠ k)) (fun s => n - (intOf s).toNat)
  case atStart => exact ⟨0, rfl, Nat.zero_le _, Lib.hid (fun i hi => absurd hi (Nat.not_lt_zero _))⟩
  case round =>
    obtain ⟨i, rfl, hi, hall⟩ := hrel
    by_cases hlt : i < n
    · obtain ⟨g, o, rfl, hcs⟩ := HR.out.at_ i hlt
      have hc1 := (hcs i hlt).1
      have hc2 := (hcs i hlt).2
      clear hcs
      by_cases he : (ntp ps i).1 = k
      · have hq := txt_eq he
        have HX := Lib.hid (HE.out i hlt hall.out he)
        clear he
        generalize ntp ps i = p at *
        go_wp2
        go_ret2
        exact ⟨by rw [HX.out]; rfl, rfl⟩
      · have hq := txt_ne he
        have hnext : ∀ j, j < i + 1 → (ntp ps j).1 ≠ k := fun j hj => by
          by_cases e : j = i
          · subst e; exact he
          · exact hall.out j (by omega)
        have HX := Lib.hid hnext
        clear he hnext
        generalize ntp ps i = p at *
        go_wp2
        go_round
        case rel => exact ⟨i + 1, by go_num, by omega, HX⟩
        case measure => simp [intOf]; omega
    · have HX := Lib.hid (HN.out (fun j hj => hall.out j (by omega)))
      go_wp2
      go_ret2
      exact ⟨by rw [HX.out]; rfl, rfl⟩
end Go.Proofs.Ytnlghdkgejimpaa
