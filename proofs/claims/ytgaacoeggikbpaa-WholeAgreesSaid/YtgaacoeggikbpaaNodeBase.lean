/- node's small calls: isKey, isCell, Covers, Beneath, kidAt, every, areKids; slices.Index and Contains; the document's Key and Cell. Condition: texts of at most 2^47 bytes. -/
import Derived.Test.YtgaacoeggikbpaaFind2
import Derived.Test.YtgaacoeggikbpaaNodeKey
import Derived.Deep.RegionHeldLaw
namespace Go.Proofs.Ytgaacoeggikbpaa
open Go.RowKit

section
variable {α : Type} {w : World} {ao : Option Addr} {n c : Nat} {f : α → Value} {xs : List α}
theorem rd_len (h : Rd w (.slice ao n c) (xs.map f)) : xs.length = n ∧ n ≤ c ∧ c ≤ 9223372036854775807 := by
  have := h.len
  rw [List.length_map] at this
  exact this
theorem rd_at (h : Rd w (.slice ao n c) (xs.map f)) (d : α) (i : Nat) (hi : i < n) : ∃ g o, ao = some ⟨g, o, none⟩ ∧ ∀ j, j < n → w.cell? ⟨g, o + j, none⟩ = some (f (xs.getD j d)) := by
  have hl := rd_len h
  obtain ⟨ao', c', h1, h2, h3, h4⟩ := h
  injection h1 with e1 e2 e3
  subst e1
  obtain ⟨g, o, e, hc⟩ := h4 (by intro e; have := congrArg List.length e; simp at this; subst this; simp at hl; omega)
  refine ⟨g, o, e, fun j hj => ?_⟩
  have h6 := hc j (by rw [List.length_map]; omega)
  rw [h6, List.getElem_map, List.getD_eq_getElem?_getD, List.getElem?_eq_getElem (by omega)]; rfl
end
def ni (zs : List Int) (i : Nat) : Int := zs.getD i 0
def nu (us : List Nat) (i : Nat) : Nat := us.getD i 0
theorem ni_eq {zs : List Int} {i : Nat} (h : i < zs.length) : ni zs i = zs[i] := by
  unfold ni; rw [List.getD_eq_getElem?_getD, List.getElem?_eq_getElem h]; rfl
theorem nu_eq {us : List Nat} {i : Nat} (h : i < us.length) : nu us i = us[i] := by
  unfold nu; rw [List.getD_eq_getElem?_getD, List.getElem?_eq_getElem h]; rfl
def uv (n : Nat) : Value := .int .u64 (n : Nat)

/-- A node's box. -/
def NB (V : World) (A : Nat) (cs : Array Value) : Prop := V.heap[A]? = some (.cells cs 38 (0, 0))
section
variable {V V' : World} {A : Nat} (lv nx : Int) (lo hi : ByteArray) (la : Bool) (ak av ac : Option Addr) (nk ck nv cv nc cc : Nat)
theorem NB.below {cs : Array Value} (h : NB V A cs) (hb : Below V.heap.size V V') : NB V' A cs := (hb.block A (lt_of_block h)).trans h
theorem NB.new (V : World) (cs : Array Value) : NB (V.alloc (.cells cs 38)) V.heap.size cs := heap_alloc_new V _
theorem NB.cells (h : NB V A #[.int .i64 lv, .string lo, .string hi, .bool la, .int .i64 nx, .slice ak nk ck, .slice av nv cv, .slice ac nc cc]) : (V.cell? ⟨A, 0, none⟩ = some (.int .i64 lv) ∧ V.cell? ⟨A, 1, none⟩ = some (.string lo) ∧ V.cell? ⟨A, 2, none⟩ = some (.string hi) ∧ V.cell? ⟨A, 3, none⟩ = some (.bool la) ∧ V.cell? ⟨A, 4, none⟩ = some (.int .i64 nx) ∧ V.cell? ⟨A, 5, none⟩ = some (.slice ak nk ck) ∧ V.cell? ⟨A, 6, none⟩ = some (.slice av nv cv) ∧ V.cell? ⟨A, 7, none⟩ = some (.slice ac nc cc)) :=
  ⟨cell_of_heap h, cell_of_heap h, cell_of_heap h, cell_of_heap h, cell_of_heap h, cell_of_heap h, cell_of_heap h, cell_of_heap h⟩
end

/-- A node's rows. -/
structure NdAt (w : World) (ak av ac : Option Addr) (nk ck nv cv nc cc : Nat) (ks : List ByteArray) (vs : List Nat) (cs : List Int) : Prop where
  k : Rd w (.slice ak nk ck) (ks.map Value.string)
  v : Rd w (.slice av nv cv) (vs.map uv)
  c : Rd w (.slice ac nc cc) (cs.map (Value.int .i64))
theorem NdAt.keep {w w' : World} {ak av ac : Option Addr} {nk ck nv cv nc cc : Nat} {ks : List ByteArray} {vs : List Nat} {cs : List Int} (h : NdAt w ak av ac nk ck nv cv nc cc ks vs cs) (hb : Below w.heap.size w w') : NdAt w' ak av ac nk ck nv cv nc cc ks vs cs :=
  ⟨h.k.keep hb, h.v.keep hb, h.c.keep hb⟩

def keyB (k : ByteArray) : Bool := decide (1 ≤ k.size ∧ k.size ≤ 64)
def cellB (c : Int) : Bool := decide (0 ≤ c ∧ c < 8192)
theorem keyB_iff (k : ByteArray) : keyB k = true ↔ 1 ≤ k.size ∧ k.size ≤ 64 := by unfold keyB; rw [decide_eq_true_iff]
theorem cellB_iff (c : Int) : cellB c = true ↔ 0 ≤ c ∧ c < 8192 := by unfold cellB; rw [decide_eq_true_iff]
theorem bool_no {b : Bool} {p : Prop} (h : b = true ↔ p) (hn : ¬ p) : b = false := by
  cases b with
  | false => rfl
  | true => exact absurd (h.1 rfl) hn

theorem isKey_any (k : ByteArray) (w : World) : Calls Try.prog 63 #[.string k] w fun e w' => e = .returned (.bool (keyB k)) ∧ w = w' := by
  have hc := check_any k w
  have hb := keyB_iff k
  by_cases h : k.size = 0 ∨ 64 < k.size
  · rw [if_pos h] at hc
    have HC := Lib.hid hc
    have HB := Lib.hid (bool_no hb (by omega))
    clear hc hb h
    go_enter Try.func63, Try.ntmps63
    go_wp2_with fail
    refine HC.out.mono ?_
    rintro e w1 ⟨rfl, rfl⟩
    go_wp2
    go_ret
    exact ⟨ret_b HB.out.symm, rfl⟩
  · rw [if_neg h] at hc
    have HC := Lib.hid hc
    have HB := Lib.hid (hb.2 (by omega))
    clear hc hb h
    go_enter Try.func63, Try.ntmps63
    go_wp2_with fail
    refine HC.out.mono ?_
    rintro e w1 ⟨rfl, rfl⟩
    go_wp2
    go_ret
    exact ⟨ret_b HB.out.symm, rfl⟩

theorem isCell_any (c : Int) (w : World) : Calls Try.prog 64 #[.int .i64 c] w fun e w' => e = .returned (.bool (cellB c)) ∧ w = w' := by
  have hb := cellB_iff c
  by_cases h1 : 0 ≤ c
  · by_cases h2 : c < 8192
    · have HB := Lib.hid (hb.2 ⟨h1, h2⟩)
      clear hb
      go_enter Try.func64, Try.ntmps64
      go_wp2
      go_ret
      exact ⟨ret_b HB.out.symm, rfl⟩
    · have HB := Lib.hid (bool_no hb (by omega))
      clear hb
      go_enter Try.func64, Try.ntmps64
      go_wp2
      go_ret
      exact ⟨ret_b HB.out.symm, rfl⟩
  · have HB := Lib.hid (bool_no hb (by omega))
    clear hb
    go_enter Try.func64, Try.ntmps64
    go_wp2
    go_ret
    exact ⟨ret_b HB.out.symm, rfl⟩
set_option maxHeartbeats 1000000 in
theorem covers_any (lv nx : Int) (lo hi : ByteArray) (la : Bool) (ak av ac : Option Addr) (nk ck nv cv nc cc : Nat) (k : ByteArray) (w : World) (hl : lo.size ≤ 140737488355328) (hh : hi.size ≤ 140737488355328) (hk : k.size ≤ 140737488355328) :
    Calls Try.prog 36 #[.agg #[.int .i64 lv, .string lo, .string hi, .bool la, .int .i64 nx, .slice ak nk ck, .slice av nv cv, .slice ac nc cc], .string k] w fun e w' => e = .returned (.bool (insideB lo.data.toList hi.data.toList la k.data.toList)) ∧ Below w.heap.size w w' := by
  have HC := Lib.hid (fun W => inside_any lo hi la k W hl hh hk)
  have HB := Lib.hid (boxed_below w (.cells #[.int .i64 lv, .string lo, .string hi, .bool la, .int .i64 nx, .slice ak nk ck, .slice av nv cv, .slice ac nc cc] 38))
  clear hl hh hk
  generalize insideB lo.data.toList hi.data.toList la k.data.toList = r at *
  go_enter Try.func36, Try.ntmps36
  go_wp2_with fail
  refine (HC.out _).mono ?_
  rintro e w1 ⟨rfl, hb⟩
  have HB2 := Lib.hid (HB.out.trans (hb.mono HB.out.size))
  clear hb
  go_wp2
  go_ret
  exact ⟨rfl, HB2.out⟩
/-- every, of keys. -/
def EveryGives (w w' : World) (e : Ending) (p : Prop) : Prop := ∃ r : Bool, e = .returned (.bool r) ∧ (r = true ↔ p) ∧ Below w.heap.size w w'
set_option maxHeartbeats 1000000 in
set_option maxRecDepth 100000 in
theorem everyKey_any (ao : Option Addr) (n c : Nat) (ks : List ByteArray) (w : World) (hr : Rd w (.slice ao n c) (ks.map Value.string)) :
    Calls Try.prog 66 #[.slice ao n c, .func (.func 63) #[] #[]] w fun e w' => ∃ r : Bool, e = .returned (.bool r) ∧ (r = true ↔ ∀ i, i < n → keyB (nth ks i) = true) ∧ w = w' := by
  have HR := Lib.hid hr
  have hl := rd_len hr
  have hl2 := hl.2.1
  have hl3 := hl.2.2
  have HK := Lib.hid (fun k W => isKey_any k W)
  clear hr hl
  go_enter Try.func66, Try.ntmps66
  go_wp2
  go_loopw [9] (fun s wr => ∃ i : Nat, s = .int .i64 i ∧ i ≤ n ∧ Hid (w = wr) ∧ Hid (∀ j, j < i → keyB (nth ks j) = true)) (fun s _ => n - (intOf s).toNat)
  case atStart => exact ⟨0, rfl, Nat.zero_le _, Lib.hid rfl, Lib.hid (fun j hj => absurd hj (Nat.not_lt_zero _))⟩
  case round =>
    obtain ⟨i, rfl, hi, hwr, hall⟩ := hrel
    have hwe := hwr.out
    subst hwe
    clear hwr
    by_cases hlt : i < n
    · obtain ⟨g, o, rfl, hc⟩ := rd_at HR.out (⟨#[]⟩ : ByteArray) i hlt
      have hc1 := hc i hlt
      have HK1 := Lib.hid (fun W => HK.out (nth ks i) W)
      have hlt' : (i : Int) < n := by omega
      have hc2 : w.cell? ⟨g, o + i, none⟩ = some (.string (nth ks i)) := hc1
      clear hc hc1
      cases hk : keyB (nth ks i) with
      | true =>
        rw [hk] at HK1
        have HN : Hid (∀ j, j < i + 1 → keyB (nth ks j) = true) := Lib.hid (fun j hj => by
          by_cases e : j = i
          · subst e; exact hk
          · exact hall.out j (by omega))
        clear hk
        generalize nth ks i = s at *
        go_wp2_with fail
        refine (HK1.out _).mono ?_
        rintro e w1 ⟨rfl, rfl⟩
        go_wp2
        go_roundw
        case rel => exact ⟨i + 1, by go_num, by omega, Lib.hid (by trivial), HN⟩
        case measure => simp [intOf]; omega
      | false =>
        rw [hk] at HK1
        have HN : Hid (¬ ∀ j, j < n → keyB (nth ks j) = true) := Lib.hid (fun h => by have := h i hlt; rw [hk] at this; cases this)
        clear hk
        generalize nth ks i = s at *
        go_wp2_with fail
        refine (HK1.out _).mono ?_
        rintro e w1 ⟨rfl, rfl⟩
        go_wp2
        go_ret
        exact ⟨false, rfl, ⟨fun h => (by cases h), fun h => absurd h HN.out⟩, rfl⟩
    · obtain rfl : i = n := by omega
      go_wp2
      go_ret
      exact ⟨true, rfl, ⟨fun _ => hall.out, fun _ => rfl⟩, rfl⟩

/-- The closure of soundKeys: is a text in the range of the node in its box? -/
theorem inBox_any (lv nx : Int) (lo hi : ByteArray) (la : Bool) (ak av ac : Option Addr) (nk ck nv cv nc cc : Nat) (A : Nat) (k : ByteArray) (w : World) (hb : NB w A #[.int .i64 lv, .string lo, .string hi, .bool la, .int .i64 nx, .slice ak nk ck, .slice av nv cv, .slice ac nc cc]) (hl : lo.size ≤ 140737488355328) (hh : hi.size ≤ 140737488355328) (hk : k.size ≤ 140737488355328) :
    Calls Try.prog 67 #[.string k, .pointer (some ⟨A, 0, none⟩)] w fun e w' => e = .returned (.bool (insideB lo.data.toList hi.data.toList la k.data.toList)) ∧ Below w.heap.size w w' := by
  have HC := Lib.hid (covers_any lv nx lo hi la ak av ac nk ck nv cv nc cc k w hl hh hk)
  obtain ⟨q0, q1, q2, q3, q4, q5, q6, q7⟩ := hb.cells
  clear hb hl hh hk
  generalize insideB lo.data.toList hi.data.toList la k.data.toList = r at *
  go_enter Try.func67, Try.ntmps67
  go_wp2_with fail
  refine HC.out.mono ?_
  rintro e w1 ⟨rfl, hb⟩
  have HB2 := Lib.hid hb
  clear hb
  go_wp2
  go_ret
  exact ⟨rfl, HB2.out⟩

set_option maxHeartbeats 1000000 in
set_option maxRecDepth 100000 in
theorem everyIn_any (lv nx : Int) (lo hi : ByteArray) (la : Bool) (ak av ac : Option Addr) (nk ck nv cv nc cc : Nat) (A : Nat) (ks : List ByteArray) (w : World) (hr : Rd w (.slice ak nk ck) (ks.map Value.string)) (hb : NB w A #[.int .i64 lv, .string lo, .string hi, .bool la, .int .i64 nx, .slice ak nk ck, .slice av nv cv, .slice ac nc cc]) (hl : lo.size ≤ 140737488355328) (hh : hi.size ≤ 140737488355328) (hk : ∀ x ∈ ks, x.size ≤ 140737488355328) :
    Calls Try.prog 66 #[.slice ak nk ck, .func (.func 67) #[] #[.pointer (some ⟨A, 0, none⟩)]] w fun e w' => EveryGives w w' e (∀ i, i < nk → insideB lo.data.toList hi.data.toList la (nth ks i).data.toList = true) := by
  have HR := Lib.hid hr
  have hln := rd_len hr
  have hl2 := hln.2.1
  have hl3 := hln.2.2
  have HK := Lib.hid (fun k hk W hB => inBox_any lv nx lo hi la ak av ac nk ck nv cv nc cc A k W hB hl hh hk)
  have HSZ : Hid (∀ i, i < nk → (nth ks i).size ≤ 140737488355328) := Lib.hid (fun i hi => by rw [nth_eq (by omega)]; exact hk _ (List.getElem_mem _))
  have HB := Lib.hid hb
  clear hr hln hb hk hl hh
  go_enter Try.func66, Try.ntmps66
  go_wp2
  go_loopw [9] (fun s wr => ∃ i : Nat, s = .int .i64 i ∧ i ≤ nk ∧ Hid (Below w.heap.size w wr) ∧ Hid (∀ j, j < i → insideB lo.data.toList hi.data.toList la (nth ks j).data.toList = true)) (fun s _ => nk - (intOf s).toNat)
  case atStart => exact ⟨0, rfl, Nat.zero_le _, Lib.hid (Below.refl _ _), Lib.hid (fun j hj => absurd hj (Nat.not_lt_zero _))⟩
  case round =>
    obtain ⟨i, rfl, hin, hbw, hall⟩ := hrel
    by_cases hlt : i < nk
    · obtain ⟨g, o, rfl, hc⟩ := rd_at (HR.out.keep hbw.out) (⟨#[]⟩ : ByteArray) i hlt
      have hc1 := hc i hlt
      have HK1 := Lib.hid (HK.out (nth ks i) (HSZ.out i hlt) wr (HB.out.below hbw.out))
      have hlt' : (i : Int) < nk := by omega
      have hc2 : wr.cell? ⟨g, o + i, none⟩ = some (.string (nth ks i)) := hc1
      clear hc hc1
      cases hk : insideB lo.data.toList hi.data.toList la (nth ks i).data.toList with
      | true =>
        rw [hk] at HK1
        have HN : Hid (∀ j, j < i + 1 → insideB lo.data.toList hi.data.toList la (nth ks j).data.toList = true) := Lib.hid (fun j hj => by
          by_cases e : j = i
          · subst e; exact hk
          · exact hall.out j (by omega))
        clear hk
        generalize nth ks i = s at *
        go_wp2_with fail
        refine HK1.out.mono ?_
        rintro e w1 ⟨rfl, hb1⟩
        have HBN := Lib.hid (hbw.out.trans (hb1.mono hbw.out.size))
        clear hb1
        go_wp2
        go_roundw
        case rel => exact ⟨i + 1, by go_num, by omega, HBN, HN⟩
        case measure => simp [intOf]; omega
      | false =>
        rw [hk] at HK1
        have HN : Hid (¬ ∀ j, j < nk → insideB lo.data.toList hi.data.toList la (nth ks j).data.toList = true) := Lib.hid (fun h => by have := h i hlt; rw [hk] at this; cases this)
        clear hk
        generalize nth ks i = s at *
        go_wp2_with fail
        refine HK1.out.mono ?_
        rintro e w1 ⟨rfl, hb1⟩
        have HBN := Lib.hid (hbw.out.trans (hb1.mono hbw.out.size))
        clear hb1
        go_wp2
        go_ret
        exact ⟨false, rfl, ⟨fun h => (by cases h), fun h => absurd h HN.out⟩, HBN.out⟩
    · obtain rfl : i = nk := by omega
      go_wp2
      go_ret
      exact ⟨true, rfl, ⟨fun _ => hall.out, fun _ => rfl⟩, hbw.out⟩
end Go.Proofs.Ytgaacoeggikbpaa
