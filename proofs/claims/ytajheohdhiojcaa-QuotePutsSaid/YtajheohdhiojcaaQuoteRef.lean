/- The document's own 'Strays', 'First', 'digit' and 'part' (bowerref02). Conditions: a text of at most 2^33 bytes; a digit below 16; a piece that is not empty. -/
import Derived.Test.YtajheohdhiojcaaQuoteParts
namespace Go.Proofs.Ytajheohdhiojcaa
open Go.RowKit

theorem pcs_len (l : List UInt8) : (pcs l).length ≤ l.length := by
  by_cases h : l = []
  · subst h; rw [pcs_nil]; simp
  · have h2 := pcs_len (l.drop (dec l).2)
    have h3 := width_le l h
    rw [List.length_drop] at h2
    rw [pcs_cons h, List.length_cons]
    omega
termination_by l.length
decreasing_by exact drop_lt l h

theorem pcs_flat (l : List UInt8) : (pcs l).flatMap (·.1) = l := by
  by_cases h : l = []
  · subst h; rw [pcs_nil]; rfl
  · rw [pcs_cons h, List.flatMap_cons, pcs_flat (l.drop (dec l).2), List.take_append_drop]
termination_by l.length
decreasing_by exact drop_lt l h

theorem flat_take {α β : Type} (P : List α) (f : α → List β) (k : Nat) : ((P.take k).flatMap f).length ≤ (P.flatMap f).length := by
  have h : P.flatMap f = (P.take k).flatMap f ++ (P.drop k).flatMap f := by rw [← List.flatMap_append, List.take_append_drop]
  rw [h, List.length_append]
  omega

theorem row_form {w : World} {B : Nat} {e : TypeId} {v : Value} {n : Nat} {xs : List Value} (h : w.ownsRow B e 1 v n xs) : ∃ ao c, v = .slice ao n c := by
  rcases h.2 with ⟨rfl, hn⟩ | ⟨g, cap, cur, rfl, _⟩
  · exact ⟨none, 0, by rw [hn]⟩
  · exact ⟨_, _, rfl⟩

/-- The cell at a place. -/
theorem row_at {w : World} {B : Nat} {e : TypeId} {ao : Option Addr} {n c : Nat} {xs : List Value} (h : w.ownsRow B e 1 (.slice ao n c) n xs) (j : Nat) (hj : j < n) : ∃ g, ao = some ⟨g, 0, none⟩ ∧ w.cell? ⟨g, j, none⟩ = xs[j]? := by
  rcases h.2 with ⟨e1, hn⟩ | ⟨g, cap, cur, e1, _⟩
  · omega
  · injection e1 with e1 _ e2
    subst e1
    exact ⟨g, rfl, h.cellAt (g := g) j (by omega)⟩

set_option maxHeartbeats 1600000 in
set_option maxRecDepth 100000 in
theorem rstrays_any (s : ByteArray) (w : World) (hs : s.size ≤ 8589934592) :
    Calls Try.prog 39 #[.string s] w fun e w' => e = .returned (.int .i64 ((pcs s.data.toList).filter (·.2)).length) ∧ Below w.heap.size w w' := by
  have hpl := pcs_len s.data.toList
  rw [len_toList] at hpl
  go_enter Try.func39, Try.ntmps39
  go_wp2_with fail
  refine (parts_any s _ hs).mono ?_
  rintro e w1 ⟨v4, v5, rfl, h4, h5, _, hb⟩
  obtain ⟨a4, c4, rfl⟩ := row_form h4
  obtain ⟨a5, c5, rfl⟩ := row_form h5
  have hrow := fun j hj => row_at h5 j hj
  have HR := Lib.hid hrow
  clear h4 h5 hrow
  generalize hP : pcs s.data.toList = P at *
  generalize hN : P.length = N at *
  go_wp2
  go_loop [5, 6] (fun v5 v6 => ∃ m i : Nat, v5 = .int .i64 m ∧ v6 = .int .i64 i ∧ i ≤ N ∧ m ≤ i ∧ Hid (m = ((P.take i).filter (·.2)).length)) (fun _ v6 => N - (intOf v6).toNat)
  case atStart => exact ⟨0, 0, rfl, rfl, Nat.zero_le _, Nat.le_refl _, Lib.hid (by simp)⟩
  case round =>
    obtain ⟨m, i, rfl, rfl, hi, hmi, hm⟩ := hrel
    by_cases hlt : i < N
    · obtain ⟨g, rfl, hc⟩ := HR.out i hlt
      have hP2 : P[i]? = some (P[i]'(by omega)) := List.getElem?_eq_getElem (by omega)
      rw [List.getElem?_map, hP2] at hc
      have hcell : w1.cell? ⟨g, i, none⟩ = some (.bool (P[i]'(by omega)).2) := hc
      have hm2 : ((P.take (i + 1)).filter (·.2)).length = m + if (P[i]'(by omega)).2 then 1 else 0 := by
        rw [List.take_add_one, hP2, List.filter_append, List.length_append, ← hm.out]
        cases hx : (P[i]'(by omega)).2 <;> simp [hx]
      clear hc hm hP2
      generalize (P[i]'(by omega)).2 = b at *
      cases b with
      | true =>
        have HM := Lib.hid hm2
        clear hm2
        go_wp2
        go_round
        case rel => exact ⟨m + 1, i + 1, by go_num, by go_num, by omega, by omega, Lib.hid (by rw [HM.out]; simp)⟩
        case measure => simp [intOf]; omega
      | false =>
        have HM := Lib.hid hm2
        clear hm2
        go_wp2
        go_round
        case rel => exact ⟨m, i + 1, rfl, by go_num, by omega, by omega, Lib.hid (by rw [HM.out]; simp)⟩
        case measure => simp [intOf]; omega
    · have he : m = (P.filter (·.2)).length := by rw [hm.out, List.take_of_length_le (by omega)]
      have HE := Lib.hid he
      clear he hm
      go_wp2
      go_ret
      exact ⟨ret_val (by rw [← HE.out]; rfl), hb⟩

theorem txt_append (a b : List UInt8) : txt a ++ txt b = txt (a ++ b) := by
  apply ByteArray.ext
  rw [ByteArray.data_append]
  simp [txt]

set_option maxHeartbeats 1600000 in
set_option maxRecDepth 100000 in
theorem rfirst_any (s : ByteArray) (n0 : Int) (w : World) (hs : s.size ≤ 8589934592) (h0 : -9223372036854775808 ≤ n0) (h1 : n0 ≤ 9223372036854775807) :
    Calls Try.prog 37 #[.string s, .int .i64 n0] w fun e w' => e = .returned (.string (txt (firstT s.data.toList n0))) ∧ Below w.heap.size w w' := by
  have hpl := pcs_len s.data.toList
  rw [len_toList] at hpl
  have hfl := fun k => flat_take (pcs s.data.toList) (·.1) k
  rw [pcs_flat, len_toList] at hfl
  have hF : firstT s.data.toList n0 = ((pcs s.data.toList).take n0.toNat).flatMap (·.1) := rfl
  go_enter Try.func37, Try.ntmps37
  go_wp2_with fail
  refine (parts_any s _ hs).mono ?_
  rintro e w1 ⟨v4, v5, rfl, h4, h5, _, hb⟩
  obtain ⟨a4, c4, rfl⟩ := row_form h4
  obtain ⟨a5, c5, rfl⟩ := row_form h5
  have hrow := fun j hj => row_at h4 j hj
  have HR := Lib.hid hrow
  clear h4 h5 hrow
  have HF := Lib.hid hF
  clear hF
  generalize hP : pcs s.data.toList = P at *
  generalize hN : P.length = N at *
  go_wp2
  go_loop [7, 8] (fun v7 v8 => ∃ i : Nat, v7 = .string (txt ((P.take i).flatMap (·.1))) ∧ v8 = .int .i64 i ∧ i ≤ N ∧ (i = 0 ∨ (i : Int) ≤ n0)) (fun _ v8 => N - (intOf v8).toNat)
  case atStart => exact ⟨0, rfl, rfl, Nat.zero_le _, Or.inl rfl⟩
  case round =>
    obtain ⟨i, rfl, rfl, hi, hin⟩ := hrel
    by_cases hlt : i < N
    · by_cases hl2 : (i : Int) < n0
      · obtain ⟨g, rfl, hc⟩ := HR.out i hlt
        have hP2 : P[i]? = some (P[i]'(by omega)) := List.getElem?_eq_getElem (by omega)
        rw [List.getElem?_map, hP2] at hc
        have hcell : w1.cell? ⟨g, i, none⟩ = some (.string (txt (P[i]'(by omega)).1)) := hc
        have hm2 : txt ((P.take (i + 1)).flatMap (·.1)) = txt ((P.take i).flatMap (·.1)) ++ txt (P[i]'(by omega)).1 := by
          rw [List.take_add_one, hP2, List.flatMap_append, txt_append]
          simp
        have hbd : (txt ((P.take i).flatMap (·.1))).size + (txt (P[i]'(by omega)).1).size ≤ 9223372036854775807 := by
          have h1 := hfl (i + 1)
          have h2 := congrArg ByteArray.size hm2
          rw [txt_size, ByteArray.size_append] at h2
          omega
        have HM := Lib.hid hm2
        clear hc hm2 hP2
        generalize txt (P[i]'(by omega)).1 = b at *
        generalize txt ((P.take i).flatMap (·.1)) = acc at *
        go_wp2
        go_round
        case rel => exact ⟨i + 1, by rw [HM.out], by go_num, by omega, Or.inr (by omega)⟩
        case measure => simp [intOf]; omega
      · have he : firstT s.data.toList n0 = (P.take i).flatMap (·.1) := by
          rw [HF.out, show n0.toNat = i by omega]
        have HE := Lib.hid he
        clear he
        generalize (P.take i).flatMap (·.1) = acc at *
        go_wp2
        go_ret
        exact ⟨ret_val (by rw [HE.out]; rfl), hb⟩
    · have he : firstT s.data.toList n0 = (P.take i).flatMap (·.1) := by
        rw [HF.out, List.take_of_length_le (show P.length ≤ i by omega)]
        rcases hin with e | e
        · have : P = [] := List.eq_nil_of_length_eq_zero (by omega)
          rw [this]; simp
        · rw [List.take_of_length_le (show P.length ≤ n0.toNat by omega)]
      have HE := Lib.hid he
      clear he
      generalize (P.take i).flatMap (·.1) = acc at *
      go_wp2
      go_ret
      exact ⟨ret_val (by rw [HE.out]; rfl), hb⟩

theorem digit_fin : ∀ n : Fin 16, (⟨#[48, 49, 50, 51, 52, 53, 54, 55, 56, 57, 97, 98, 99, 100, 101, 102]⟩ : ByteArray).extract n.val (n.val + 1) = txt [hexd n.val] := by decide +kernel

theorem digit_any (z : Int) (n : Nat) (hz : z = n) (hn : n < 16) (w : World) :
    Calls Try.prog 79 #[.int .i64 z] w fun e w' => e = .returned (.string (txt [hexd n])) ∧ w = w' := by
  subst hz
  have hd := Lib.hid (digit_fin ⟨n, hn⟩)
  go_enter Try.func79, Try.ntmps79
  go_wp2
  go_ret
  exact ⟨ret_val (congrArg Value.string hd.out), rfl⟩
end Go.Proofs.Ytajheohdhiojcaa
