/- (*sip.Eye).Text at an eye that is not nil and has no fault. Conditions: 'most' is an int; the bytes are not among the eye's own cells. -/
import Derived.Test.YtgckgagnodkhjaaRRRRDoorEyeRest
import Derived.Laws.IdiomStrings
import Derived.Laws.BytesString
namespace Go.Proofs.YtgckgagnodkhjaaRRRRDoor
open Go.RowKit

/-- What Text does, by what Num reads: r is the length, its fault, and what is left then. -/
def TextDone (w w' : World) (eb : Nat) (most : Int) (r : Nat × Int × List UInt8) (e : Ending) : Prop :=
  ∃ (x : List UInt8) (f : Int) (left : List UInt8), e = .returned (.string ⟨x.toArray⟩) ∧ Took w w' eb left f ∧
    ((f = 0 ∧ r.2.1 = 0 ∧ (r.1 : Int) ≤ most ∧ r.1 ≤ r.2.2.length ∧ x = r.2.2.take r.1 ∧ left = r.2.2.drop r.1) ∨ (f ≠ 0 ∧ ¬ (r.2.1 = 0 ∧ (r.1 : Int) ≤ most ∧ r.1 ≤ r.2.2.length)))

theorem add_at (g o n : Nat) : (⟨g, o, none⟩ : Addr).add n = ⟨g, o + n, none⟩ := by
  by_cases h : n = 0
  · subst h; simp [Addr.add]
  · simp [Addr.add, h]

theorem conv_cells (w : World) (ao : Option Addr) (n c : Nat) (l : List UInt8) (hn : l.length = n) (h : n = 0 ∨ ∃ a, ao = some a ∧ ∀ j (hj : j < l.length), w.cell? (a.add j) = some (.int .u8 (l[j].toNat : Int))) :
    (convert 36 9 (.slice ao n c)).run Tryd.prog w = .ok (.string ⟨l.toArray⟩) w := by
  subst hn
  rcases h with h | ⟨a, rfl, h⟩
  · have : l = [] := List.eq_nil_of_length_eq_zero h
    subst this
    cases ao with
    | none =>
      rw [List.length_nil, run_convert_bytes_string (P := Tryd.prog) w 36 9 5 none 0 c Tryd.underlying36 Tryd.underlying5 Tryd.underlying9]
      rfl
    | some a => exact run_convert_bytes_back (P := Tryd.prog) w 36 9 5 a c [] Tryd.underlying36 Tryd.underlying5 Tryd.underlying9 (fun j hj => absurd hj (Nat.not_lt_zero _))
  · exact run_convert_bytes_back (P := Tryd.prog) w 36 9 5 a c l Tryd.underlying36 Tryd.underlying5 Tryd.underlying9 h

/-- A text of n bytes is taken. -/
theorem text_take {w w1 : World} {eb n c : Nat} {ao : Option Addr} {r : List UInt8} {f : Int} (hw : Ew eb w w1) (h1 : w1.heap[eb]? = some (.cells #[.slice ao r.length c, .int .i64 f] 57 (0, 0)))
    (hc1 : r.length ≤ c) (hc2 : c ≤ 9223372036854775807) (h4 : r ≠ [] → ∃ g o, ao = some ⟨g, o, none⟩ ∧ g ≠ eb ∧ ∀ j (h : j < r.length), w1.cell? ⟨g, o + j, none⟩ = some (.int .u8 (r[j].toNat : Nat))) (hn : n ≤ r.length) :
    (convert 36 9 (.slice ao n c)).run Tryd.prog w1 = .ok (.string ⟨(r.take n).toArray⟩) w1 ∧
    ∀ ao', (n < r.length → ∃ g o, ao = some ⟨g, o, none⟩ ∧ ao' = some ⟨g, o + n, none⟩) → Took w (w1.setCell ⟨eb, 0, none⟩ (.slice ao' (r.length - n) (c - n))) eb (r.drop n) f := by
  have hl : (r.take n).length = n := by rw [List.length_take]; omega
  constructor
  · refine conv_cells w1 ao n c (r.take n) hl ?_
    by_cases h0 : n = 0
    · exact Or.inl h0
    · right
      have hne : r ≠ [] := by intro e; rw [e] at hn; simp at hn; exact h0 hn
      obtain ⟨g, o, e, _, hc⟩ := h4 hne
      refine ⟨_, e, fun j hj => ?_⟩
      have := hc j (by omega)
      rw [List.getElem_take, add_at]
      exact this
  · intro ao' ha
    have he : Eye w1 eb r f := ⟨_, h1, ao, c, rfl, hc1, hc2, h4⟩
    refine ⟨he.set ⟨ao', c - n, by rw [List.length_drop], by rw [List.length_drop]; omega, by omega, fun hne => ?_⟩, hw.trans (Ew.set _ _ _ _)⟩
    have hlt : n < r.length := by
      have := List.length_pos_iff.2 hne
      rw [List.length_drop] at this
      omega
    obtain ⟨g, o, e1, e2⟩ := ha hlt
    have hr : r ≠ [] := by intro e; rw [e] at hlt; simp at hlt
    obtain ⟨g', o', e3, hg, hc⟩ := h4 hr
    rw [e1] at e3
    injection e3 with e3
    injection e3 with e3 e4 _
    subst e3 e4
    refine ⟨g, o + n, e2, hg, fun j hj => ?_⟩
    rw [List.length_drop] at hj
    have := hc (n + j) (by omega)
    rw [Nat.add_assoc, this, List.getElem_drop]

set_option maxHeartbeats 1600000 in
set_option maxRecDepth 100000 in
theorem eyeText_any (eb : Nat) (bs : List UInt8) (most : Int) (w : World) (he : Eye w eb bs 0) (hm0 : -9223372036854775808 ≤ most) (hm1 : most ≤ 9223372036854775807) :
    Calls Tryd.prog 28 #[.pointer (some ⟨eb, 0, none⟩), .int .i64 most] w fun e w' => TextDone w w' eb most (rnum 18446744073709551615 bs) e := by
  have hn := eyeNum_any eb 18446744073709551615 bs w he
  have hl := rnum_lt 18446744073709551615 bs
  have hz := rnum_fault 18446744073709551615 bs
  unfold NumDone at hn
  have HN := Lib.hid hn
  clear hn
  generalize rnum 18446744073709551615 bs = R at *
  obtain ⟨n, f, r⟩ := R
  simp only at hl hz HN
  by_cases hneg : most < 0
  · -- with a most below 0 none can be read
    go_enter Tryd.func28, Tryd.ntmps28
    go_wp2_with fail
    refine (fail_first eb 10 _ _ he).mono ?_
    rintro e w2 ⟨rfl, ht2⟩
    go_wp2
    go_ret
    exact ⟨[], 10, [], rfl, ht2, Or.inr ⟨by decide, fun h => by have := h.2.1; simp only at this; omega⟩⟩
  · by_cases hbig : most < (n : Int)
    · -- longer than most: then there was no fault
      have hf : f = 0 := by
        by_cases e : f = 0
        · exact e
        · have := (hz e).1; omega
      subst hf
      clear hz
      go_enter Tryd.func28, Tryd.ntmps28
      go_wp2_with fail
      refine HN.out.mono ?_
      rintro e w1 ⟨rfl, ht⟩
      go_wp2_with fail
      refine (fail_first eb 10 _ _ ht.1).mono ?_
      rintro e w2 ⟨rfl, ht2⟩
      go_wp2
      go_ret
      exact ⟨[], 10, [], rfl, ⟨ht2.1, ht.2.trans ht2.2⟩, Or.inr ⟨by decide, fun h => by have := h.2.1; simp only at this; omega⟩⟩
    · by_cases hlong : r.length < n
      · have hf : f = 0 := by
          by_cases e : f = 0
          · exact e
          · have h2 := hz e; rw [h2.1] at hlong; omega
        subst hf
        clear hz
        go_enter Tryd.func28, Tryd.ntmps28
        go_wp2_with fail
        refine HN.out.mono ?_
        rintro e w1 ⟨rfl, ht⟩
        have hT := Lib.hid ht
        obtain ⟨⟨v, h1, ao, c, rfl, hc1, hc2, h4⟩, _⟩ := ht
        have k0 := two_cell0 h1
        clear h1 h4
        go_wp2_with fail
        refine (fail_first eb 11 _ _ hT.out.1).mono ?_
        rintro e w2 ⟨rfl, ht2⟩
        go_wp2
        go_ret
        exact ⟨[], 11, [], rfl, ⟨ht2.1, hT.out.2.trans ht2.2⟩, Or.inr ⟨by decide, fun h => by have := h.2.2; simp only at this; omega⟩⟩
      · -- taken: n of the bytes (behind a fault: none of none)
        have hle : n ≤ r.length := by omega
        have HB := Lib.hid (show (n : Int) ≤ most ∧ n ≤ r.length from ⟨by omega, hle⟩)
        clear hz
        go_enter Tryd.func28, Tryd.ntmps28
        go_wp2_with fail
        refine HN.out.mono ?_
        rintro e w1 ⟨rfl, ht⟩
        obtain ⟨⟨v, h1, ao, c, rfl, hc1, hc2, h4⟩, hew⟩ := ht
        have k0 := two_cell0 h1
        have f0 := two_free (i := 0) h1
        obtain ⟨hcv, htk⟩ := text_take hew h1 hc1 hc2 h4 hle
        have HTK := Lib.hid htk
        have H4 := Lib.hid h4
        clear h1 h4 htk hew
        by_cases hcn : c = n
        · subst hcn
          go_wp2
          go_ret
          have h := HTK.out ao (fun h => absurd h (by omega))
          rw [Nat.sub_self, show r.length - c = 0 by omega] at h
          refine ⟨_, f, _, rfl, h, ?_⟩
          by_cases e : f = 0
          · exact Or.inl ⟨e, e, HB.out.1, HB.out.2, rfl, rfl⟩
          · exact Or.inr ⟨e, fun h => e h.1⟩
        · go_wp2
          go_ret
          have h := HTK.out (Option.map (fun x => x.add n) ao) (fun h => by
            obtain ⟨g, o, e, _⟩ := H4.out (by intro e; rw [e] at h; simp at h)
            exact ⟨g, o, e, by rw [e, Option.map_some, add_at]⟩)
          refine ⟨_, f, _, rfl, h, ?_⟩
          by_cases e : f = 0
          · exact Or.inl ⟨e, e, HB.out.1, HB.out.2, rfl, rfl⟩
          · exact Or.inr ⟨e, fun h => e h.1⟩
end Go.Proofs.YtgckgagnodkhjaaRRRRDoor
