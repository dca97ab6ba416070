/- slices.Index and Contains, areKids, kidAt, Least, the document's Least, Light. Condition: none but that fans are small. -/
import Derived.Test.YtgaacoeggikbpaaNodeBase
namespace Go.Proofs.Ytgaacoeggikbpaa
open Go.RowKit

set_option maxHeartbeats 1000000 in
set_option maxRecDepth 100000 in
theorem index_any (ao : Option Addr) (n c : Nat) (zs : List Int) (v : Int) (w : World) (hr : Rd w (.slice ao n c) (zs.map (Value.int .i64))) :
    Calls Try.prog 82 #[.slice ao n c, .int .i64 v] w fun e w' => ∃ a : Int, e = .returned (.int .i64 a) ∧ (0 ≤ a ↔ ∃ j, j < n ∧ ni zs j = v) ∧ w = w' := by
  have HR := Lib.hid hr
  have hl := rd_len hr
  have hl2 := hl.2.1
  have hl3 := hl.2.2
  clear hr hl
  go_enter Try.func82, Try.ntmps82
  go_wp2
  go_loop [8] (fun s => ∃ i : Nat, s = .int .i64 i ∧ i ≤ n ∧ Hid (∀ j, j < i → ni zs j ≠ v)) (fun s => n - (intOf s).toNat)
  case atStart => exact ⟨0, rfl, Nat.zero_le _, Lib.hid (fun j hj => absurd hj (Nat.not_lt_zero _))⟩
  case round =>
    obtain ⟨i, rfl, hi, hall⟩ := hrel
    by_cases hlt : i < n
    · obtain ⟨g, o, rfl, hc⟩ := rd_at HR.out (0 : Int) i hlt
      have hc2 : w.cell? ⟨g, o + i, none⟩ = some (.int .i64 (ni zs i)) := hc i hlt
      have hlt' : (i : Int) < n := by omega
      clear hc
      by_cases he : ni zs i = v
      · have hd : (v == ni zs i) = true := by rw [he]; simp
        have HE : Hid (∃ j, j < n ∧ ni zs j = v) := Lib.hid ⟨i, hlt, he⟩
        clear he
        generalize ni zs i = x at *
        go_wp2
        go_ret
        exact ⟨(i : Int), rfl, ⟨fun _ => HE.out, fun _ => by omega⟩, rfl⟩
      · have hd : (v == ni zs i) = false := beq_eq_false_iff_ne.2 (fun e => he e.symm)
        have HN : Hid (∀ j, j < i + 1 → ni zs j ≠ v) := Lib.hid (fun j hj => by
          by_cases e : j = i
          · subst e; exact he
          · exact hall.out j (by omega))
        clear he
        generalize ni zs i = x at *
        go_wp2
        go_round
        case rel => exact ⟨i + 1, by go_num, by omega, HN⟩
        case measure => simp [intOf]; omega
    · obtain rfl : i = n := by omega
      go_wp2
      go_ret
      exact ⟨-1, rfl, ⟨fun h => absurd h (by omega), fun ⟨j, hj, e⟩ => absurd e (hall.out j hj)⟩, rfl⟩

theorem contains_any (ao : Option Addr) (n c : Nat) (zs : List Int) (v : Int) (w : World) (hr : Rd w (.slice ao n c) (zs.map (Value.int .i64))) :
    Calls Try.prog 78 #[.slice ao n c, .int .i64 v] w fun e w' => ∃ r : Bool, e = .returned (.bool r) ∧ (r = true ↔ ∃ j, j < n ∧ ni zs j = v) ∧ w = w' := by
  have HI := Lib.hid (index_any ao n c zs v w hr)
  clear hr
  go_enter Try.func78, Try.ntmps78
  go_wp2_with fail
  refine HI.out.mono ?_
  rintro e w1 ⟨a, rfl, ha, rfl⟩
  have HA := Lib.hid ha
  clear ha
  go_wp2
  go_ret
  exact ⟨decide (0 ≤ a), rfl, by rw [decide_eq_true_iff]; exact HA.out, rfl⟩

/-- Whether kids are cells, each another one. -/
def KidsP (n : Nat) (zs : List Int) : Prop := ∀ i, i < n → cellB (ni zs i) = true ∧ ∀ j, j < i → ni zs j ≠ ni zs i
theorem ni_take (zs : List Int) (i j : Nat) (h : j < i) : ni (zs.take i) j = ni zs j := by
  unfold ni
  rw [List.getD_eq_getElem?_getD, List.getD_eq_getElem?_getD, List.getElem?_take_of_lt h]

set_option maxHeartbeats 2000000 in
set_option maxRecDepth 100000 in
theorem areKids_any (ao : Option Addr) (n c : Nat) (zs : List Int) (w : World) (hr : Rd w (.slice ao n c) (zs.map (Value.int .i64))) :
    Calls Try.prog 68 #[.slice ao n c] w fun e w' => ∃ r : Bool, e = .returned (.bool r) ∧ (r = true ↔ KidsP n zs) ∧ w = w' := by
  have HR := Lib.hid hr
  have hl := rd_len hr
  have hl2 := hl.2.1
  have hl3 := hl.2.2
  have HK := Lib.hid (fun c W => isCell_any c W)
  have HC : Hid (∀ i, i ≤ n → ∀ v, Calls Try.prog 78 #[.slice ao i c, .int .i64 v] w fun e w' => ∃ r : Bool, e = .returned (.bool r) ∧ (r = true ↔ ∃ j, j < i ∧ ni zs j = v) ∧ w = w') := Lib.hid (fun i hi v => by
    have h := hr.take i hi
    rw [← List.map_take] at h
    refine (contains_any ao i c (zs.take i) v w h).mono ?_
    rintro e w' ⟨r, rfl, hr, rfl⟩
    refine ⟨r, rfl, hr.trans ⟨fun ⟨j, hj, e⟩ => ⟨j, hj, by rw [← ni_take zs i j hj]; exact e⟩, fun ⟨j, hj, e⟩ => ⟨j, hj, by rw [ni_take zs i j hj]; exact e⟩⟩, rfl⟩)
  clear hr hl
  go_enter Try.func68, Try.ntmps68
  go_wp2
  go_loopw [7] (fun s wr => ∃ i : Nat, s = .int .i64 i ∧ i ≤ n ∧ Hid (w = wr) ∧ Hid (∀ k, k < i → cellB (ni zs k) = true ∧ ∀ j, j < k → ni zs j ≠ ni zs k)) (fun s _ => n - (intOf s).toNat)
  case atStart => exact ⟨0, rfl, Nat.zero_le _, Lib.hid rfl, Lib.hid (fun j hj => absurd hj (Nat.not_lt_zero _))⟩
  case round =>
    obtain ⟨i, rfl, hi, hwr, hall⟩ := hrel
    have hwe := hwr.out
    subst hwe
    clear hwr
    by_cases hlt : i < n
    · obtain ⟨g, o, rfl, hc⟩ := rd_at HR.out (0 : Int) i hlt
      have hc2 : w.cell? ⟨g, o + i, none⟩ = some (.int .i64 (ni zs i)) := hc i hlt
      have hlt' : (i : Int) < n := by omega
      have hic : i ≤ c := by omega
      have HK1 := Lib.hid (fun W => HK.out (ni zs i) W)
      have HC1 := Lib.hid (HC.out i (by omega) (ni zs i))
      clear hc
      cases hk : cellB (ni zs i) with
      | false =>
        rw [hk] at HK1
        have HN : Hid (¬ KidsP n zs) := Lib.hid (fun h => by have := (h i hlt).1; rw [hk] at this; cases this)
        clear hk HC1
        generalize ni zs i = x at *
        go_wp2_with fail
        refine (HK1.out _).mono ?_
        rintro e w1 ⟨rfl, rfl⟩
        go_wp2
        go_ret
        exact ⟨false, rfl, ⟨fun h => (by cases h), fun h => absurd h HN.out⟩, rfl⟩
      | true =>
        rw [hk] at HK1
        have HKT := Lib.hid hk
        clear hk
        have HXI := Lib.hid (show ni zs i = ni zs i from rfl)
        go_wp2_with fail
        refine (HK1.out _).mono ?_
        rintro e w1 ⟨rfl, rfl⟩
        go_wp2_with fail
        refine HC1.out.mono ?_
        rintro e w1 ⟨r, rfl, hr, rfl⟩
        cases r with
        | true =>
          have HN : Hid (¬ KidsP n zs) := Lib.hid (fun h => by
            obtain ⟨j, hj, e⟩ := hr.1 rfl
            exact (h i hlt).2 j hj e)
          clear hr
          go_wp2
          go_ret
          exact ⟨false, rfl, ⟨fun h => (by cases h), fun h => absurd h HN.out⟩, rfl⟩
        | false =>
          have HN : Hid (∀ k, k < i + 1 → cellB (ni zs k) = true ∧ ∀ j, j < k → ni zs j ≠ ni zs k) := Lib.hid (fun k hk => by
            by_cases e : k = i
            · subst e
              exact ⟨HKT.out, fun j hj e => by have := hr.2 ⟨j, hj, e⟩; cases this⟩
            · exact hall.out k (by omega))
          clear hr
          go_wp2
          go_roundw
          case rel => exact ⟨i + 1, by go_num, by omega, Lib.hid (by trivial), HN⟩
          case measure => simp [intOf]; omega
    · obtain rfl : i = n := by omega
      go_wp2
      go_ret
      exact ⟨true, rfl, ⟨fun _ => hall.out, fun _ => rfl⟩, rfl⟩

/-- The least. -/
def leastN (lv : Int) (f : Nat) : Nat := if 0 < lv ∧ (f + 3) / 4 < 2 then 2 else (f + 3) / 4

set_option maxHeartbeats 1000000 in
theorem least_any (lv : Int) (f : Nat) (w : World) (hf : f ≤ 64) :
    Calls Try.prog 57 #[.int .i64 lv, .int .i64 f] w fun e w' => e = .returned (.int .i64 (leastN lv f : Nat)) ∧ w = w' := by
  have h1 : max (f : Int) 0 = f := by omega
  have h2 : (f : Int).tdiv 4 = ((f / 4 : Nat) : Int) := by rw [Int.tdiv_eq_ediv_of_nonneg (by omega)]; omega
  have h3 : (f : Int) / 4 = ((f / 4 : Nat) : Int) := by omega
  have h4 : (f : Int).tmod 4 = ((f % 4 : Nat) : Int) := by rw [Int.tmod_eq_emod_of_nonneg (by omega)]; omega
  have h5 : (f : Int) % 4 = ((f % 4 : Nat) : Int) := by omega
  have hle : f / 4 ≤ 16 := by omega
  have hL : leastN lv f = if 0 < lv ∧ (f + 3) / 4 < 2 then 2 else (f + 3) / 4 := rfl
  by_cases hm : f % 4 = 0
  · have hq : (f + 3) / 4 = f / 4 := by omega
    have hd : ¬ (0 : Int) < ((f % 4 : Nat) : Int) := by omega
    rw [hq] at hL
    clear hq hm
    generalize f % 4 = m at *
    generalize f / 4 = q at *
    by_cases hv : 0 < lv
    · have HX : Hid (max (q : Int) 2 = ((leastN lv f : Nat) : Int)) := Lib.hid (by rw [hL]; split <;> omega)
      clear hL
      go_enter Try.func57, Try.ntmps57
      go_wp2
      all_goals
        go_ret
        exact ⟨ret_i (by have := HX.out; omega), rfl⟩
    · have HX : Hid ((q : Int) = ((leastN lv f : Nat) : Int)) := Lib.hid (by rw [hL, if_neg (by omega)])
      clear hL
      go_enter Try.func57, Try.ntmps57
      go_wp2
      all_goals
        go_ret
        exact ⟨ret_i (by have := HX.out; omega), rfl⟩
  · have hq : (f + 3) / 4 = f / 4 + 1 := by omega
    have hd : (0 : Int) < ((f % 4 : Nat) : Int) := by omega
    rw [hq] at hL
    clear hq hm
    generalize f % 4 = m at *
    generalize f / 4 = q at *
    by_cases hv : 0 < lv
    · have HX : Hid (max ((q : Int) + 1) 2 = ((leastN lv f : Nat) : Int)) := Lib.hid (by rw [hL]; split <;> omega)
      clear hL
      go_enter Try.func57, Try.ntmps57
      go_wp2
      all_goals
        go_ret
        exact ⟨ret_i (by have := HX.out; omega), rfl⟩
    · have HX : Hid ((q : Int) + 1 = ((leastN lv f : Nat) : Int)) := Lib.hid (by rw [hL, if_neg (by omega)]; omega)
      clear hL
      go_enter Try.func57, Try.ntmps57
      go_wp2
      all_goals
        go_ret
        exact ⟨ret_i (by have := HX.out; omega), rfl⟩

/-- Whether a node is small. -/
structure LightP (lo hi : ByteArray) (nk nv nc : Nat) (ks : List ByteArray) : Prop where
  k : ∀ i, i < nk → (nth ks i).size ≤ 100
  n : nk ≤ 80 ∧ nv ≤ 80 ∧ nc ≤ 80
  b : lo.size ≤ 100 ∧ hi.size ≤ 100

set_option maxHeartbeats 2000000 in
set_option maxRecDepth 100000 in
theorem nlight_any (lv nx : Int) (lo hi : ByteArray) (la : Bool) (ak av ac : Option Addr) (nk ck nv cv nc cc : Nat) (ks : List ByteArray) (w : World) (hr : Rd w (.slice ak nk ck) (ks.map Value.string)) (hnv : nv ≤ 9223372036854775807) (hnc : nc ≤ 9223372036854775807) :
    Calls Try.prog 9 #[.agg #[.int .i64 lv, .string lo, .string hi, .bool la, .int .i64 nx, .slice ak nk ck, .slice av nv cv, .slice ac nc cc]] w fun e w' => EveryGives w w' e (LightP lo hi nk nv nc ks) := by
  have HB0 := Lib.hid (boxed_below w (.cells #[.int .i64 lv, .string lo, .string hi, .bool la, .int .i64 nx, .slice ak nk ck, .slice av nv cv, .slice ac nc cc] 38))
  have HR := Lib.hid (hr.keep HB0.out)
  have hl := rd_len hr
  have hl2 := hl.2.1
  have hl3 := hl.2.2
  clear hr hl
  go_enter Try.func9, Try.ntmps9
  go_wp2
  go_loop [8] (fun s => ∃ i : Nat, s = .int .i64 i ∧ i ≤ nk ∧ Hid (∀ j, j < i → (nth ks j).size ≤ 100)) (fun s => nk - (intOf s).toNat)
  case atStart => exact ⟨0, rfl, Nat.zero_le _, Lib.hid (fun j hj => absurd hj (Nat.not_lt_zero _))⟩
  case round =>
    obtain ⟨i, rfl, hin, hall⟩ := hrel
    by_cases hlt : i < nk
    · obtain ⟨g, o, rfl, hc⟩ := rd_at HR.out (⟨#[]⟩ : ByteArray) i hlt
      have hc2 : _ = some (Value.string (nth ks i)) := hc i hlt
      have hlt' : (i : Int) < nk := by omega
      clear hc
      by_cases hs : 100 < (nth ks i).size
      · have gs : (100 : Int) < (nth ks i).size := by omega
        have HN : Hid (¬ LightP lo hi nk nv nc ks) := Lib.hid (fun h => by have := h.k i hlt; omega)
        clear hs
        generalize nth ks i = s at *
        go_wp2
        go_ret
        exact ⟨false, rfl, ⟨fun h => (by cases h), fun h => absurd h HN.out⟩, HB0.out⟩
      · have gs : ((nth ks i).size : Int) ≤ 100 := by omega
        have HN : Hid (∀ j, j < i + 1 → (nth ks j).size ≤ 100) := Lib.hid (fun j hj => by
          by_cases e : j = i
          · subst e; omega
          · exact hall.out j (by omega))
        clear hs
        generalize nth ks i = s at *
        go_wp2
        go_round
        case rel => exact ⟨i + 1, by go_num, by omega, HN⟩
        case measure => simp [intOf]; omega
    · obtain rfl : i = nk := by omega
      by_cases h1 : i ≤ 80
      · by_cases h2 : nv ≤ 80
        · by_cases h3 : nc ≤ 80
          · by_cases h4 : lo.size ≤ 100
            · by_cases h5 : hi.size ≤ 100
              · have g1 : (i : Int) ≤ 80 := by omega
                have g2 : (nv : Int) ≤ 80 := by omega
                have g3 : (nc : Int) ≤ 80 := by omega
                have g4 : (lo.size : Int) ≤ 100 := by omega
                have g5 : (hi.size : Int) ≤ 100 := by omega
                go_wp2
                go_ret
                exact ⟨true, rfl, ⟨fun _ => ⟨hall.out, ⟨h1, h2, h3⟩, h4, h5⟩, fun _ => rfl⟩, HB0.out⟩
              · have g1 : (i : Int) ≤ 80 := by omega
                have g2 : (nv : Int) ≤ 80 := by omega
                have g3 : (nc : Int) ≤ 80 := by omega
                have g4 : (lo.size : Int) ≤ 100 := by omega
                have g5 : ¬ (hi.size : Int) ≤ 100 := by omega
                go_wp2
                go_ret
                exact ⟨false, rfl, ⟨fun h => (by cases h), fun h => absurd h.b.2 h5⟩, HB0.out⟩
            · have g1 : (i : Int) ≤ 80 := by omega
              have g2 : (nv : Int) ≤ 80 := by omega
              have g3 : (nc : Int) ≤ 80 := by omega
              have g4 : ¬ (lo.size : Int) ≤ 100 := by omega
              go_wp2
              go_ret
              exact ⟨false, rfl, ⟨fun h => (by cases h), fun h => absurd h.b.1 h4⟩, HB0.out⟩
          · have g1 : (i : Int) ≤ 80 := by omega
            have g2 : (nv : Int) ≤ 80 := by omega
            have g3 : ¬ (nc : Int) ≤ 80 := by omega
            go_wp2
            go_ret
            exact ⟨false, rfl, ⟨fun h => (by cases h), fun h => absurd h.n.2.2 h3⟩, HB0.out⟩
        · have g1 : (i : Int) ≤ 80 := by omega
          have g2 : ¬ (nv : Int) ≤ 80 := by omega
          go_wp2
          go_ret
          exact ⟨false, rfl, ⟨fun h => (by cases h), fun h => absurd h.n.2.1 h2⟩, HB0.out⟩
      · have g1 : ¬ (i : Int) ≤ 80 := by omega
        go_wp2
        go_ret
        exact ⟨false, rfl, ⟨fun h => (by cases h), fun h => absurd h.n.1 h1⟩, HB0.out⟩
end Go.Proofs.Ytgaacoeggikbpaa
