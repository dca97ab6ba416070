/- The law's own 'write' (bowerlaw01.write) at a pen that is not nil: the pen has the item's bytes behind what it had, and the same bytes are handed back in a row of their own. Conditions: fewer than 2^43 bytes written, texts of at most 2^43. -/
import Derived.Test.YtajheohdhiojcaaSipRef
namespace Go.Proofs.Ytajheohdhiojcaa
open Go.RowKit

def itemBytes (kind : Int) (num : Nat) (int : Int) (text : ByteArray) : List UInt8 :=
  if kind = 1 then Lib.uvarint (Lib.zigzag int) else if kind = 2 then Lib.uvarint (num % 2) else if kind = 3 then Lib.uvarint text.size ++ text.data.toList else Lib.uvarint num

/-- The pen has bs behind l; what is handed back has bs, in a row of its own. -/
def WriteDone (w w' : World) (B pb : Nat) (e : Ending) (l bs : List UInt8) : Prop :=
  ∃ v, e = .returned v ∧ w'.ownsRow w.heap.size 5 1 v bs.length (Lib.byteCells bs) ∧ Pen w' B pb (l ++ bs) ∧ Wr pb w w' ∧ ∀ k, v.ownBlock = some k → some k ≠ penRow w' pb

theorem own_mono {w : World} {B C : Nat} {e : TypeId} {size n : Nat} {v : Value} {xs : List Value} (h : w.ownsRow B e size v n xs) (hC : C ≤ B) : w.ownsRow C e size v n xs := by
  refine ⟨h.1, ?_⟩
  rcases h.2 with hn | ⟨g, cap, cur, rfl, hb, r⟩
  · exact Or.inl hn
  · exact Or.inr ⟨g, cap, cur, rfl, Nat.le_trans hC hb, r⟩

/-- First the pen, then a row of its own with the same bytes. -/
theorem write_both {w w1 w2 : World} {B pb : Nat} {v : Value} {l bs : List UInt8} (hd : DigitsDone w w1 B pb (l ++ bs))
    (hown : w2.ownsRow w1.heap.size 5 1 v bs.length (Lib.byteCells bs)) (hbel : Below w1.heap.size w1 w2) : WriteDone w w2 B pb (.returned v) l bs := by
  have hk : Pen w2 B pb (l ++ bs) := hd.1.keep fun k hk => hbel.block k (by rcases hk with rfl | hk; exact hd.1.lt; exact (hd.1.row k hk).2.1)
  have hr : penRow w2 pb = penRow w1 pb := by unfold penRow; rw [hbel.cell (p := ⟨pb, 0, none⟩) hd.1.lt]
  refine ⟨v, rfl, own_mono hown hd.2.size, hk, hd.2.trans ⟨hbel.os, hbel.tape, hbel.output, hbel.size, fun k h _ _ => hbel.block k h, Or.inl hr⟩, ?_⟩
  intro k hk e
  have h1 := (hown.lt k hk).1
  rw [hr] at e
  have := (hd.1.row k e.symm).2.1
  omega

theorem uvarint_bit (n : Nat) : Lib.uvarint (if ((n : Int) % 2 == 1) = true then 1 else 0) = Lib.uvarint (n % 2) := by
  have h : n % 2 = 0 ∨ n % 2 = 1 := by omega
  rcases h with h | h
  · rw [h, if_neg (by simp; omega)]
  · rw [h, if_pos (by simp; omega)]

/-- A block that was made before the pen wrote, and is not the pen's: its cells behind the writing. -/
theorem boxed {w w1 : World} {B pb : Nat} {l : List UInt8} {c : Array Value} {t : TypeId} (hpen : Pen w B pb l) (h : Wr pb (w.alloc (.cells c t)) w1) (j : Nat) : w1.cell? ⟨w.heap.size, j, none⟩ = c[j]? := by
  have hlt := hpen.lt
  rw [h.cell (p := ⟨w.heap.size, j, none⟩) (by simp) (by show w.heap.size ≠ pb; omega) ?_]
  · exact World.cell?_alloc_new _ _ _ _
  · rw [penRow_alloc hlt]
    intro e
    exact absurd (hpen.row _ e.symm).2.1 (Nat.lt_irrefl _)

set_option maxHeartbeats 1600000 in
set_option maxRecDepth 100000 in
theorem write_num (B pb : Nat) (kind int most : Int) (num : Nat) (text : ByteArray) (l : List UInt8) (w : World) (hk1 : (kind == 1) = false) (hk2 : (kind == 2) = false) (hk3 : (kind == 3) = false) (hnum : num < 18446744073709551616)
    (hl : l.length ≤ 8796093022208) (hpen : Pen w B pb l) (hB : B ≤ w.heap.size) :
    Calls Try.prog 17 #[.pointer (some ⟨pb, 0, none⟩), .agg #[.int .i64 kind, .int .u64 num, .int .i64 int, .string text, .int .i64 most]] w fun e w' => WriteDone w w' B pb e l (Lib.uvarint num) := by
  have hlt := hpen.lt
  go_enter Try.func17, Try.ntmps17
  go_wp2_with fail
  refine (num_one B pb num _ _ hnum (by omega) (hpen.alloc _) (by simp; omega) _ (by simp)).mono ?_
  rintro e w1 ⟨rfl, hd⟩
  have hc := boxed hpen hd.2 1
  simp at hc
  go_wp2_with fail
  refine (refNum_any num _ hnum).mono ?_
  rintro e w2 ⟨v, rfl, hown, hbel⟩
  go_wp2
  go_ret
  exact write_both ⟨hd.1, ((Wr.refl _ _).alloc hlt _).trans hd.2⟩ hown hbel

set_option maxHeartbeats 1600000 in
set_option maxRecDepth 100000 in
theorem write_int (B pb : Nat) (kind int most : Int) (num : Nat) (text : ByteArray) (l : List UInt8) (w : World) (hk1 : (kind == 1) = true) (h0 : -9223372036854775808 ≤ int) (h1 : int ≤ 9223372036854775807)
    (hl : l.length ≤ 8796093022208) (hpen : Pen w B pb l) (hB : B ≤ w.heap.size) :
    Calls Try.prog 17 #[.pointer (some ⟨pb, 0, none⟩), .agg #[.int .i64 kind, .int .u64 num, .int .i64 int, .string text, .int .i64 most]] w fun e w' => WriteDone w w' B pb e l (Lib.uvarint (Lib.zigzag int)) := by
  have hlt := hpen.lt
  have hz := Lib.zigzag_lt h0 h1
  go_enter Try.func17, Try.ntmps17
  go_wp2_with fail
  refine (int_one B pb int _ _ h0 h1 (by omega) (hpen.alloc _) (by simp; omega) _ (by simp)).mono ?_
  rintro e w1 ⟨rfl, hd⟩
  have hc := boxed hpen hd.2 2
  simp at hc
  go_wp2_with fail
  refine (refTurn_any int _ h0 h1).mono ?_
  rintro e w2 ⟨rfl, rfl⟩
  go_wp2_with fail
  refine (refNum_any (Lib.zigzag int) _ hz).mono ?_
  rintro e w2 ⟨v, rfl, hown, hbel⟩
  go_wp2
  go_ret
  exact write_both ⟨hd.1, ((Wr.refl _ _).alloc hlt _).trans hd.2⟩ hown hbel

set_option maxHeartbeats 1600000 in
set_option maxRecDepth 100000 in
theorem write_text (B pb : Nat) (kind int most : Int) (num : Nat) (text : ByteArray) (l : List UInt8) (w : World) (hk1 : (kind == 1) = false) (hk2 : (kind == 2) = false) (hk3 : (kind == 3) = true) (hs : text.size ≤ 8796093022208)
    (hl : l.length ≤ 8796093022208) (hpen : Pen w B pb l) (hB : B ≤ w.heap.size) :
    Calls Try.prog 17 #[.pointer (some ⟨pb, 0, none⟩), .agg #[.int .i64 kind, .int .u64 num, .int .i64 int, .string text, .int .i64 most]] w fun e w' => WriteDone w w' B pb e l (Lib.uvarint text.size ++ text.data.toList) := by
  have hlt := hpen.lt
  go_enter Try.func17, Try.ntmps17
  go_wp2_with fail
  refine (penText_any B pb text _ _ hs hl (hpen.alloc _) (by simp; omega)).mono ?_
  rintro e w1 ⟨rfl, hd⟩
  have hc := boxed hpen hd.2 3
  simp at hc
  go_wp2_with fail
  refine (refText_any text _ hs).mono ?_
  rintro e w2 ⟨v, rfl, hown, hbel⟩
  go_wp2
  go_ret
  exact write_both ⟨hd.1, ((Wr.refl _ _).alloc hlt _).trans hd.2⟩ hown hbel

set_option maxHeartbeats 1600000 in
set_option maxRecDepth 100000 in
theorem write_truth (B pb : Nat) (kind int most : Int) (num : Nat) (text : ByteArray) (l : List UInt8) (w : World) (hk1 : (kind == 1) = false) (hk2 : (kind == 2) = true)
    (hl : l.length ≤ 8796093022208) (hpen : Pen w B pb l) (hB : B ≤ w.heap.size) :
    Calls Try.prog 17 #[.pointer (some ⟨pb, 0, none⟩), .agg #[.int .i64 kind, .int .u64 num, .int .i64 int, .string text, .int .i64 most]] w fun e w' => WriteDone w w' B pb e l (Lib.uvarint (num % 2)) := by
  have hlt := hpen.lt
  go_enter Try.func17, Try.ntmps17
  go_wp2_with fail
  refine (truth_one B pb ((num : Int) % 2 == 1) _ _ (by omega) (hpen.alloc _) (by simp; omega) _ (by simp)).mono ?_
  rintro e w1 ⟨rfl, hd⟩
  have hc := boxed hpen hd.2 1
  simp at hc
  go_wp2
  go_ret
  have hsm : num % 2 < 128 := by omega
  have hl1 : w1.alloc (.cells #[Value.int .u8 ((num : Int) % 2)] 5) |>.ownsRow w1.heap.size 5 1 (.slice (some ⟨w1.heap.size, 0, none⟩) 1 1) (Lib.uvarint (num % 2)).length (Lib.byteCells (Lib.uvarint (num % 2))) := by
    rw [Lib.uvarint_small hsm]
    have h := World.ownsRow_lit (base := w1.heap.size) (e := 5) (size := 1) w1 #[Value.int .u8 ((num : Int) % 2)] 1 (Nat.le_refl _) (by unfold maxLen; omega) rfl
    have e : Lib.byteCells [(num % 2).toUInt8] = [Value.int .u8 ((num : Int) % 2)] := by simp [Lib.byteCells, Lib.toUInt8_toNat (show num % 2 < 256 by omega)]
    rw [e]
    exact h
  refine write_both ⟨?_, ((Wr.refl _ _).alloc hlt _).trans hd.2⟩ hl1 ((Below.refl _ _).alloc (Nat.le_refl _) _)
  have h := hd.1
  rw [uvarint_bit] at h
  exact h

/-- Whatever the item. -/
theorem write_any (B pb : Nat) (kind int most : Int) (num : Nat) (text : ByteArray) (l : List UInt8) (w : World) (hnum : num < 18446744073709551616) (h0 : -9223372036854775808 ≤ int) (h1 : int ≤ 9223372036854775807) (hs : text.size ≤ 8796093022208)
    (hl : l.length ≤ 8796093022208) (hpen : Pen w B pb l) (hB : B ≤ w.heap.size) :
    Calls Try.prog 17 #[.pointer (some ⟨pb, 0, none⟩), .agg #[.int .i64 kind, .int .u64 num, .int .i64 int, .string text, .int .i64 most]] w fun e w' => WriteDone w w' B pb e l (itemBytes kind num int text) := by
  unfold itemBytes
  by_cases c1 : kind = 1
  · rw [if_pos c1]; exact write_int B pb kind int most num text l w (by simp [c1]) h0 h1 hl hpen hB
  rw [if_neg c1]
  by_cases c2 : kind = 2
  · rw [if_pos c2]; exact write_truth B pb kind int most num text l w (by simp [c1]) (by simp [c2]) hl hpen hB
  rw [if_neg c2]
  by_cases c3 : kind = 3
  · rw [if_pos c3]; exact write_text B pb kind int most num text l w (by simp [c1]) (by simp [c2]) (by simp [c3]) hs hl hpen hB
  rw [if_neg c3]
  exact write_num B pb kind int most num text l w (by simp [c1]) (by simp [c2]) (by simp [c3]) hnum hl hpen hB
end Go.Proofs.Ytajheohdhiojcaa
