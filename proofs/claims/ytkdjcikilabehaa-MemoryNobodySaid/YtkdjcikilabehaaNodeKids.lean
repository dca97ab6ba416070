/- slices.Index and Contains, areKids, kidAt, Least, the document's Least, Light. Condition: none but that fans are small. -/
import Derived.Test.YtkdjcikilabehaaNodeBase
namespace Go.Proofs.Ytkdjcikilabehaa
open Go.RowKit

/-- Whether kids are cells, each another one. -/
def KidsP (n : Nat) (zs : List Int) : Prop := ∀ i, i < n → cellB (ni zs i) = true ∧ ∀ j, j < i → ni zs j ≠ ni zs i
theorem ni_take (zs : List Int) (i j : Nat) (h : j < i) : ni (zs.take i) j = ni zs j := by
  unfold ni
  rw [List.getD_eq_getElem?_getD, List.getD_eq_getElem?_getD, List.getElem?_take_of_lt h]

/-- The least. -/
def leastN (lv : Int) (f : Nat) : Nat := if 0 < lv ∧ (f + 3) / 4 < 2 then 2 else (f + 3) / 4

/-- Whether a node is small. -/
structure LightP (lo hi : ByteArray) (nk nv nc : Nat) (ks : List ByteArray) : Prop where
  k : ∀ i, i < nk → (nth ks i).size ≤ 100
  n : nk ≤ 80 ∧ nv ≤ 80 ∧ nc ≤ 80
  b : lo.size ≤ 100 ∧ hi.size ≤ 100

set_option maxHeartbeats 2000000 in
set_option maxRecDepth 100000 in
theorem nlight_any (lv nx : Int) (lo hi : ByteArray) (la : Bool) (ak av ac : Option Addr) (nk ck nv cv nc cc : Nat) (ks : List ByteArray) (w : World) (hr : Rd w (.slice ak nk ck) (ks.map Value.string)) (hnv : nv ≤ 9223372036854775807) (hnc : nc ≤ 9223372036854775807) :
    Calls Try.prog 30 #[.agg #[.int .i64 lv, .string lo, .string hi, .bool la, .int .i64 nx, .slice ak nk ck, .slice av nv cv, .slice ac nc cc]] w fun e w' => EveryGives w w' e (LightP lo hi nk nv nc ks) := by
  have HB0 := Lib.hid (boxed_below w (.cells #[.int .i64 lv, .string lo, .string hi, .bool la, .int .i64 nx, .slice ak nk ck, .slice av nv cv, .slice ac nc cc] 33))
  have HR := Lib.hid (hr.keep HB0.out)
  have hl := rd_len hr
  have hl2 := hl.2.1
  have hl3 := hl.2.2
  clear hr hl
  go_enter Try.func30, Try.ntmps30
  go_wp2
  go_loop [8] (fun s => ∃ i : Nat, s = .int .i64 i ∧ i ≤ nk ∧ Hid (∀ j, j < i → (nth ks j).size ≤ 100)) (fun s => nk - (intOf s).toNat)
  case atStart => exact ⟨0, rfl, Nat.zero_le _, Lib.hid (fun j hj => absurd hj (Nat.not_lt_zero _))⟩
  case round =>
    obtain ⟨i, rfl, hin, hall⟩ := hrel
    by_cases hlt : i < nk
    · obtain ⟨g, o, rfl, hc⟩ := rd_at HR.out (⟨#[]⟩ : ByteArray) i hlt
      have hc2 : _ = some (Value.string (nth ks i)) := hc i hlt
      have hlt' : (i : Int) < nk := by omega
      clear hc
      by_cases hs : 100 < (nth ks i).size
      · have gs : (100 : Int) < (nth ks i).size := by omega
        have HN : Hid (¬ LightP lo hi nk nv nc ks) := Lib.hid (fun h => by have := h.k i hlt; omega)
        clear hs
        generalize nth ks i = s at *
        go_wp2
        go_ret
        exact ⟨false, rfl, ⟨fun h => (by cases h), fun h => absurd h HN.out⟩, HB0.out⟩
      · have gs : ((nth ks i).size : Int) ≤ 100 := by omega
        have HN : Hid (∀ j, j < i + 1 → (nth ks j).size ≤ 100) := Lib.hid (fun j hj => by
          by_cases e : j = i
          · subst e; omega
          · exact hall.out j (by omega))
        clear hs
        generalize nth ks i = s at *
        go_wp2
        go_round
        case rel => exact ⟨i + 1, by go_num, by omega, HN⟩
        case measure => simp [intOf]; omega
    · obtain rfl : i = nk := by omega
      by_cases h1 : i ≤ 80
      · by_cases h2 : nv ≤ 80
        · by_cases h3 : nc ≤ 80
          · by_cases h4 : lo.size ≤ 100
            · by_cases h5 : hi.size ≤ 100
              · have g1 : (i : Int) ≤ 80 := by omega
                have g2 : (nv : Int) ≤ 80 := by omega
                have g3 : (nc : Int) ≤ 80 := by omega
                have g4 : (lo.size : Int) ≤ 100 := by omega
                have g5 : (hi.size : Int) ≤ 100 := by omega
                go_wp2
                go_ret
                exact ⟨true, rfl, ⟨fun _ => ⟨hall.out, ⟨h1, h2, h3⟩, h4, h5⟩, fun _ => rfl⟩, HB0.out⟩
              · have g1 : (i : Int) ≤ 80 := by omega
                have g2 : (nv : Int) ≤ 80 := by omega
                have g3 : (nc : Int) ≤ 80 := by omega
                have g4 : (lo.size : Int) ≤ 100 := by omega
                have g5 : ¬ (hi.size : Int) ≤ 100 := by omega
                go_wp2
                go_ret
                exact ⟨false, rfl, ⟨fun h => (by cases h), fun h => absurd h.b.2 h5⟩, HB0.out⟩
            · have g1 : (i : Int) ≤ 80 := by omega
              have g2 : (nv : Int) ≤ 80 := by omega
              have g3 : (nc : Int) ≤ 80 := by omega
              have g4 : ¬ (lo.size : Int) ≤ 100 := by omega
              go_wp2
              go_ret
              exact ⟨false, rfl, ⟨fun h => (by cases h), fun h => absurd h.b.1 h4⟩, HB0.out⟩
          · have g1 : (i : Int) ≤ 80 := by omega
            have g2 : (nv : Int) ≤ 80 := by omega
            have g3 : ¬ (nc : Int) ≤ 80 := by omega
            go_wp2
            go_ret
            exact ⟨false, rfl, ⟨fun h => (by cases h), fun h => absurd h.n.2.2 h3⟩, HB0.out⟩
        · have g1 : (i : Int) ≤ 80 := by omega
          have g2 : ¬ (nv : Int) ≤ 80 := by omega
          go_wp2
          go_ret
          exact ⟨false, rfl, ⟨fun h => (by cases h), fun h => absurd h.n.2.1 h2⟩, HB0.out⟩
      · have g1 : ¬ (i : Int) ≤ 80 := by omega
        go_wp2
        go_ret
        exact ⟨false, rfl, ⟨fun h => (by cases h), fun h => absurd h.n.1 h1⟩, HB0.out⟩
end Go.Proofs.Ytkdjcikilabehaa
