/- halve.halves at texts, words and numbers: a row's two halves, each in new memory. Condition: a row that is there. key.Parting and the document's, of a text below another; halve.bordering and its closure, isCell, isSound. Condition: sizes that fit. -/
import Derived.Test.YtlcnnnljdffbmaaPartStr
import Derived.Test.YtlcnnnljdffbmaaPartU64
import Derived.Test.YtlcnnnljdffbmaaPartInt
import Derived.Test.YtlcnnnljdffbmaaNodeClone
import Derived.Test.YtlcnnnljdffbmaaNods
import Derived.Test.YtlcnnnljdffbmaaInsMath
namespace Go.Proofs.Ytlcnnnljdffbmaa
open Go.RowKit

/-- How many the left one has. -/
def hlf (n : Nat) : Nat := n - n / 2
theorem hlf_le (n : Nat) : hlf n ≤ n := by unfold hlf; omega
theorem hlf_int (n : Nat) : (n : Int) - (n : Int).tdiv 2 = ((hlf n : Nat) : Int) := by
  unfold hlf
  rw [Int.tdiv_eq_ediv_of_nonneg (by omega)]
  omega
theorem hlf_div (n : Nat) : (n : Int) - (n : Int) / 2 = ((hlf n : Nat) : Int) := by
  unfold hlf
  omega
theorem part_take {α : Type} (xs : List α) (a : Nat) (h : a ≤ xs.length) : (xs.take (min (a : Int) (xs.length : Int)).toNat).drop (max (0 : Int) 0).toNat = xs.take a := by
  rw [show (min (a : Int) (xs.length : Int)).toNat = a by omega, show (max (0 : Int) 0).toNat = 0 by omega, List.drop_zero]
theorem part_drop {α : Type} (xs : List α) (a : Nat) : (xs.take (min (xs.length : Int) (xs.length : Int)).toNat).drop (max (a : Int) 0).toNat = xs.drop a := by
  rw [show (min (xs.length : Int) (xs.length : Int)).toNat = xs.length by omega, show (max (a : Int) 0).toNat = a by omega, List.take_length]
theorem new_made {w w' : World} {t : TypeId} {v : Value} {xs : List Value} (h : Made w w' t v xs) : NewRow w w' t v xs ∧ Below w.heap.size w w' := by
  obtain ⟨g, rfl, h2, h3, h4⟩ := h
  exact ⟨Or.inl ⟨g, rfl, by omega, h3⟩, h4⟩
/-- Two new rows are told. -/
def HalvesG (w w' : World) (e : Ending) (t : TypeId) (xs ys : List Value) : Prop := ∃ v1 v2, e = .returned (.tuple #[v1, v2]) ∧ NewRow w w' t v1 xs ∧ NewRow w w' t v2 ys ∧ Below w.heap.size w w'

theorem part_newStr {w w' : World} {e : Ending} {ys : List Value} (h : PartGivesStr w w' e ys) : ∃ v, e = .returned v ∧ NewRow w w' 9 v ys ∧ Below w.heap.size w w' := by
  obtain ⟨v, rfl, h | ⟨rfl, rfl, rfl⟩⟩ := h
  · exact ⟨v, rfl, (new_made h).1, (new_made h).2⟩
  · exact ⟨_, rfl, Or.inr ⟨rfl, rfl⟩, Below.refl _ _⟩
set_option maxHeartbeats 1000000 in
theorem halvesStr_any (ao : Option Addr) (n c : Nat) (xs : List Value) (w : World) (hr : Rd w (.slice ao n c) xs) (ho : ∀ u ∈ xs, u.oneCell' = true) (hn : n ≤ 274877906944) :
    Calls Try.prog 84 #[.slice ao n c] w fun e w' => HalvesG w w' e 9 (xs.take (hlf n)) (xs.drop (hlf n)) := by
  have hl := hr.len.1
  have hp : (n : Int) - (n : Int).tdiv 2 = ((hlf n : Nat) : Int) := hlf_int n
  have hp2 : (n : Int) - (n : Int) / 2 = ((hlf n : Nat) : Int) := hlf_div n
  have hle := hlf_le n
  have HT := Lib.hid (part_take xs (hlf n) (by omega))
  have HD := Lib.hid (part_drop xs (hlf n))
  have HP1 := Lib.hid (fun W (h : Below w.heap.size w W) => partStr_any (.slice ao n c) 0 (hlf n : Nat) xs W (hr.keep h) ho (by omega))
  have HP2 := Lib.hid (fun W (h : Below w.heap.size w W) => partStr_any (.slice ao n c) (hlf n : Nat) n xs W (hr.keep h) ho (by omega))
  rw [HT.out] at HP1
  rw [show (min (n : Int) (xs.length : Int)).toNat = (min (xs.length : Int) (xs.length : Int)).toNat by rw [hl], HD.out] at HP2
  clear hr ho hl HT HD
  go_enter Try.func84, Try.ntmps84
  go_wp2_with fail
  refine (HP1.out _ (Below.refl _ _)).mono ?_
  rintro e w1 h1
  obtain ⟨v1, rfl, hv1, hb1⟩ := part_newStr h1
  have HV1 := Lib.hid hv1
  have HB1 := Lib.hid hb1
  clear h1 hv1 hb1
  go_wp2_with fail
  refine (HP2.out _ HB1.out).mono ?_
  rintro e w2 h2
  obtain ⟨v2, rfl, hv2, hb2⟩ := part_newStr h2
  have HV2 := Lib.hid hv2
  have HB2 := Lib.hid hb2
  clear h2 hv2 hb2
  go_wp2
  go_ret2
  exact ⟨v1, v2, rfl, HV1.out.keep HB2.out, HV2.out.back HB1.out.size, HB1.out.trans (HB2.out.mono HB1.out.size)⟩

theorem part_newU64 {w w' : World} {e : Ending} {ys : List Value} (h : PartGivesU64 w w' e ys) : ∃ v, e = .returned v ∧ NewRow w w' 50 v ys ∧ Below w.heap.size w w' := by
  obtain ⟨v, rfl, h | ⟨rfl, rfl, rfl⟩⟩ := h
  · exact ⟨v, rfl, (new_made h).1, (new_made h).2⟩
  · exact ⟨_, rfl, Or.inr ⟨rfl, rfl⟩, Below.refl _ _⟩
set_option maxHeartbeats 1000000 in
theorem halvesU64_any (ao : Option Addr) (n c : Nat) (xs : List Value) (w : World) (hr : Rd w (.slice ao n c) xs) (ho : ∀ u ∈ xs, u.oneCell' = true) (hn : n ≤ 274877906944) :
    Calls Try.prog 85 #[.slice ao n c] w fun e w' => HalvesG w w' e 50 (xs.take (hlf n)) (xs.drop (hlf n)) := by
  have hl := hr.len.1
  have hp : (n : Int) - (n : Int).tdiv 2 = ((hlf n : Nat) : Int) := hlf_int n
  have hp2 : (n : Int) - (n : Int) / 2 = ((hlf n : Nat) : Int) := hlf_div n
  have hle := hlf_le n
  have HT := Lib.hid (part_take xs (hlf n) (by omega))
  have HD := Lib.hid (part_drop xs (hlf n))
  have HP1 := Lib.hid (fun W (h : Below w.heap.size w W) => partU64_any (.slice ao n c) 0 (hlf n : Nat) xs W (hr.keep h) ho (by omega))
  have HP2 := Lib.hid (fun W (h : Below w.heap.size w W) => partU64_any (.slice ao n c) (hlf n : Nat) n xs W (hr.keep h) ho (by omega))
  rw [HT.out] at HP1
  rw [show (min (n : Int) (xs.length : Int)).toNat = (min (xs.length : Int) (xs.length : Int)).toNat by rw [hl], HD.out] at HP2
  clear hr ho hl HT HD
  go_enter Try.func85, Try.ntmps85
  go_wp2_with fail
  refine (HP1.out _ (Below.refl _ _)).mono ?_
  rintro e w1 h1
  obtain ⟨v1, rfl, hv1, hb1⟩ := part_newU64 h1
  have HV1 := Lib.hid hv1
  have HB1 := Lib.hid hb1
  clear h1 hv1 hb1
  go_wp2_with fail
  refine (HP2.out _ HB1.out).mono ?_
  rintro e w2 h2
  obtain ⟨v2, rfl, hv2, hb2⟩ := part_newU64 h2
  have HV2 := Lib.hid hv2
  have HB2 := Lib.hid hb2
  clear h2 hv2 hb2
  go_wp2
  go_ret2
  exact ⟨v1, v2, rfl, HV1.out.keep HB2.out, HV2.out.back HB1.out.size, HB1.out.trans (HB2.out.mono HB1.out.size)⟩

theorem part_newInt {w w' : World} {e : Ending} {ys : List Value} (h : PartGivesInt w w' e ys) : ∃ v, e = .returned v ∧ NewRow w w' 3 v ys ∧ Below w.heap.size w w' := by
  obtain ⟨v, rfl, h | ⟨rfl, rfl, rfl⟩⟩ := h
  · exact ⟨v, rfl, (new_made h).1, (new_made h).2⟩
  · exact ⟨_, rfl, Or.inr ⟨rfl, rfl⟩, Below.refl _ _⟩
set_option maxHeartbeats 1000000 in
theorem halvesInt_any (ao : Option Addr) (n c : Nat) (xs : List Value) (w : World) (hr : Rd w (.slice ao n c) xs) (ho : ∀ u ∈ xs, u.oneCell' = true) (hn : n ≤ 274877906944) :
    Calls Try.prog 86 #[.slice ao n c] w fun e w' => HalvesG w w' e 3 (xs.take (hlf n)) (xs.drop (hlf n)) := by
  have hl := hr.len.1
  have hp : (n : Int) - (n : Int).tdiv 2 = ((hlf n : Nat) : Int) := hlf_int n
  have hp2 : (n : Int) - (n : Int) / 2 = ((hlf n : Nat) : Int) := hlf_div n
  have hle := hlf_le n
  have HT := Lib.hid (part_take xs (hlf n) (by omega))
  have HD := Lib.hid (part_drop xs (hlf n))
  have HP1 := Lib.hid (fun W (h : Below w.heap.size w W) => partInt_any (.slice ao n c) 0 (hlf n : Nat) xs W (hr.keep h) ho (by omega))
  have HP2 := Lib.hid (fun W (h : Below w.heap.size w W) => partInt_any (.slice ao n c) (hlf n : Nat) n xs W (hr.keep h) ho (by omega))
  rw [HT.out] at HP1
  rw [show (min (n : Int) (xs.length : Int)).toNat = (min (xs.length : Int) (xs.length : Int)).toNat by rw [hl], HD.out] at HP2
  clear hr ho hl HT HD
  go_enter Try.func86, Try.ntmps86
  go_wp2_with fail
  refine (HP1.out _ (Below.refl _ _)).mono ?_
  rintro e w1 h1
  obtain ⟨v1, rfl, hv1, hb1⟩ := part_newInt h1
  have HV1 := Lib.hid hv1
  have HB1 := Lib.hid hb1
  clear h1 hv1 hb1
  go_wp2_with fail
  refine (HP2.out _ HB1.out).mono ?_
  rintro e w2 h2
  obtain ⟨v2, rfl, hv2, hb2⟩ := part_newInt h2
  have HV2 := Lib.hid hv2
  have HB2 := Lib.hid hb2
  clear h2 hv2 hb2
  go_wp2
  go_ret2
  exact ⟨v1, v2, rfl, HV1.out.keep HB2.out, HV2.out.back HB1.out.size, HB1.out.trans (HB2.out.mono HB1.out.size)⟩
end Go.Proofs.Ytlcnnnljdffbmaa

namespace Go.Proofs.Ytlcnnnljdffbmaa
open Go.RowKit

/-- The border between two texts of leaves: what parts them. -/
def brd (a b : ByteArray) : ByteArray := b.extract 0 (cpl a.data.toList b.data.toList + 1)
theorem ext_list (b : ByteArray) (k : Nat) : (b.extract 0 k).data.toList = b.data.toList.take k := by
  simp [ByteArray.data_extract, Array.toList_extract, List.extract_eq_take_drop]

theorem ext_size (b : ByteArray) (k : Nat) : (b.extract 0 k).size ≤ b.size := by
  simp [ByteArray.size_extract]; omega

set_option maxHeartbeats 1000000 in
theorem parting_yes (a b : ByteArray) (w : World) (ha : a.size ≤ 140737488355328) (hb : b.size ≤ 140737488355328) (h : lss a.data.toList b.data.toList = true) :
    Calls Try.prog 123 #[.string a, .string b] w fun e w' => e = .returned (.tuple #[.string (b.extract 0 (cpl a.data.toList b.data.toList + 1)), .bool true]) ∧ Below w.heap.size w w' := by
  have HF := fun W => Lib.hid (lessThan_any b W)
  have HL := fun g W hc => lessIn_any g b a W hb ha hc
  rw [h] at HL
  have HL2 := Lib.hid HL
  have HS := fun W => Lib.hid (shared_any a b W ha hb)
  have hlt := cpl_lt_of_lss _ _ h
  rw [size_list] at hlt
  generalize cpl a.data.toList b.data.toList = n at *
  clear HL h
  go_enter Try.func123, Try.ntmps123
  go_wp2_with fail
  refine (HF _).out.mono ?_
  rintro e w1 ⟨rfl, rfl⟩
  go_wp2_with fail
  refine (HL2.out w.heap.size _ (boxed_cell _ _ _)).mono ?_
  rintro e w2 ⟨rfl, hd⟩
  go_wp2_with fail
  refine (HS _).out.mono ?_
  rintro e w3 ⟨rfl, hd3⟩
  go_wp2
  go_ret2
  exact ⟨rfl, (boxed_below _ _).trans ((hd.trans hd3).below _)⟩


/-- The border of a level: between leaves what parts them, between inner nodes the second text. -/
def brdL (lv : Int) (a b : ByteArray) : ByteArray := if 0 < lv then b else brd a b
theorem bordering_any (lv : Int) (w : World) :
    Calls Try.prog 87 #[.int .i64 lv] w fun e w' => e = .returned (.func (.func 122) #[] #[.pointer (some ⟨w.heap.size, 0, none⟩)]) ∧ w' = w.alloc (.cells #[.int .i64 lv] 3) := by
  go_enter Try.func87, Try.ntmps87
  go_wp2
  go_ret
  exact ⟨rfl, rfl⟩
set_option maxHeartbeats 1000000 in
theorem brdIn_any (g : Nat) (lv : Int) (a b : ByteArray) (w : World) (ha : a.size ≤ 140737488355328) (hb : b.size ≤ 140737488355328) (h : lss a.data.toList b.data.toList = true) (hc : w.cell? ⟨g, 0, none⟩ = some (.int .i64 lv)) :
    Calls Try.prog 122 #[.string a, .string b, .pointer (some ⟨g, 0, none⟩)] w fun e w' => e = .returned (.string (brdL lv a b)) ∧ Below w.heap.size w w' := by
  have HP := Lib.hid (fun W => parting_yes a b W ha hb h)
  by_cases hl : 0 < lv
  · have hbr : brdL lv a b = b := if_pos hl
    rw [hbr]
    go_enter Try.func122, Try.ntmps122
    go_wp2
    go_ret
    exact ⟨rfl, Below.refl _ _⟩
  · have hbr : brdL lv a b = brd a b := if_neg hl
    have hl2 : ¬ (0 : Int) < lv := hl
    rw [hbr]
    unfold brd
    generalize b.extract 0 (cpl a.data.toList b.data.toList + 1) = x at *
    go_enter Try.func122, Try.ntmps122
    go_wp2_with fail
    refine (HP.out _).mono ?_
    rintro e w1 ⟨rfl, hb1⟩
    have HB := Lib.hid hb1
    clear hb1
    go_wp2
    go_ret
    exact ⟨rfl, HB.out⟩
theorem hcell_any (c : Int) (w : World) : Calls Try.prog 45 #[.int .i64 c] w fun e w' => e = .returned (.bool (cellB c)) ∧ w = w' := by
  have hb := cellB_iff c
  by_cases h1 : 0 ≤ c
  · by_cases h2 : c < 8192
    · have HB := Lib.hid (hb.2 ⟨h1, h2⟩)
      clear hb
      go_enter Try.func45, Try.ntmps45
      go_wp2
      go_ret
      exact ⟨by rw [HB.out]; simp, rfl⟩
    · have HB := Lib.hid (show cellB c = false from Bool.eq_false_iff.2 (fun h => h2 (hb.1 h).2))
      clear hb
      go_enter Try.func45, Try.ntmps45
      go_wp2
      go_ret
      exact ⟨by rw [HB.out]; simp, rfl⟩
  · have HB := Lib.hid (show cellB c = false from Bool.eq_false_iff.2 (fun h => h1 (hb.1 h).1))
    clear hb
    go_enter Try.func45, Try.ntmps45
    go_wp2
    go_ret
    exact ⟨by rw [HB.out]; simp, rfl⟩
set_option maxHeartbeats 1000000 in
theorem hsound_of (lv nx : Int) (lo hi : ByteArray) (la : Bool) (ak av ac : Option Addr) (nk ck nv cv nc cc : Nat) (ks : List ByteArray) (vs : List Nat) (cs : List Int) (b : Bool) (w : World) (hN : NdAt w ak av ac nk ck nv cv nc cc ks vs cs) (hf : Fit lo hi ks nk nv nc) (hb : b = true ↔ SoundP lv nx lo hi la nk nv nc ks cs 64) :
    Calls Try.prog 44 #[.agg #[.int .i64 lv, .string lo, .string hi, .bool la, .int .i64 nx, .slice ak nk ck, .slice av nv cv, .slice ac nc cc]] w fun e w' => e = .returned (.bool b) ∧ Below w.heap.size w w' := by
  have HB := Lib.hid (boxed_below w (.cells #[.int .i64 lv, .string lo, .string hi, .bool la, .int .i64 nx, .slice ak nk ck, .slice av nv cv, .slice ac nc cc] 26))
  have HNB := Lib.hid (NB.new w #[.int .i64 lv, .string lo, .string hi, .bool la, .int .i64 nx, .slice ak nk ck, .slice av nv cv, .slice ac nc cc])
  obtain ⟨q0, q1, q2, q3, q4, q5, q6, q7⟩ := HNB.out.cells
  have HC := Lib.hid (fun W (h : Below w.heap.size w W) => check_of lv nx lo hi la ak av ac nk ck nv cv nc cc ks vs cs 64 b W (hN.keep h) hf ⟨fun h => ⟨by omega, hb.1 h⟩, fun h => hb.2 h.2⟩)
  clear hN hf hb
  go_enter Try.func44, Try.ntmps44
  go_wp2_with fail
  refine (HC.out _ HB.out).mono ?_
  rintro e w2 ⟨c, rfl, hc, _, hb2⟩
  have HB2 := Lib.hid (HB.out.trans (hb2.mono HB.out.size))
  clear hb2
  go_wp2
  go_ret
  exact ⟨rfl, HB2.out⟩
end Go.Proofs.Ytlcnnnljdffbmaa
