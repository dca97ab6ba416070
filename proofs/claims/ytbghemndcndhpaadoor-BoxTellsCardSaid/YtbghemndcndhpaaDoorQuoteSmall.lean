/- quote.stray, quote.shows, quote.escape. Conditions: runes from 0 to 10ffff; what escape appends to is a row of the call's own. -/
import Derived.Test.YtbghemndcndhpaaDoorQuoteMath
import Derived.Test.YtbghemndcndhpaaDoorPenW
import Derived.Test.YtbghemndcndhpaaDoorQShelf
import Derived.Lib.Hide
import Derived.Lib.VarintBits
import Derived.Outline
namespace Go.Proofs.YtbghemndcndhpaaDoor
open Go.RowKit

theorem Tryd.info5q : (Tryd.prog.info? 5).map (fun i => (i.zero, i.size, i.bytes)) = some (some (.int .u8 0), 1, 1) := by kernel_rfl

theorem ret_bool {a b : Bool} (h : a = b) : Ending.returned (.bool a) = .returned (.bool b) := by rw [h]

set_option maxHeartbeats 400000 in
/-- 'l' is what is left of the text; r its rune. -/
theorem stray_any (s : ByteArray) (r : Nat) (w : World) :
    Calls Tryd.prog 40 #[.string s, .int .i32 r] w fun e w' => e = .returned (.bool (r == 65533 && !Lib.hasPrefix s.data.toList [239, 191, 189])) ∧ w = w' := by
  by_cases h : r = 65533
  · have h1 : ((r : Int) == 65533) = true := by simp; omega
    have h2 : (r == 65533) = true := by simp [h]
    have H := Lib.hid h
    clear h
    go_enter Tryd.func40, Tryd.ntmps40
    go_wp2_with fail
    refine (Tryd.strings_HasPrefix _ _ _).mono ?_
    rintro e w' ⟨rfl, hw⟩
    subst w'
    go_wp2
    go_ret
    exact ⟨ret_bool (by rw [h2]; simp), rfl⟩
  · have h1 : ((r : Int) == 65533) = false := by simp; omega
    have h2 : (r == 65533) = false := by simp [h]
    have H := Lib.hid h
    clear h
    go_enter Tryd.func40, Tryd.ntmps40
    go_wp2
    go_ret
    exact ⟨ret_bool (by rw [h2]; simp), rfl⟩

set_option maxHeartbeats 800000 in
theorem shows_any (r : Nat) (w : World) :
    Calls Tryd.prog 42 #[.int .i32 r] w fun e w' => e = .returned (.bool (shows r)) ∧ w = w' := by
  have key : ∀ (b : Bool), shows r = b → Hid (shows r = b) := fun _ h => Lib.hid h
  by_cases c1 : 160 ≤ r
  · have HS := key true (by unfold shows; simp; omega)
    clear key
    go_enter Tryd.func42, Tryd.ntmps42
    go_wp2
    all_goals go_ret
    all_goals exact ⟨ret_bool (by rw [HS.out] <;> simp <;> omega), rfl⟩
  by_cases c2 : 32 ≤ r
  · by_cases c3 : r ≤ 126
    · by_cases c4 : r = 34
      · have HS := key false (by unfold shows; simp; omega)
        subst c4
        clear key
        go_enter Tryd.func42, Tryd.ntmps42
        go_wp2
        all_goals go_ret
        all_goals exact ⟨ret_bool (by rw [HS.out] <;> simp <;> omega), rfl⟩
      · by_cases c5 : r = 92
        · have HS := key false (by unfold shows; simp; omega)
          subst c5
          clear key
          go_enter Tryd.func42, Tryd.ntmps42
          go_wp2
          all_goals go_ret
          all_goals exact ⟨ret_bool (by rw [HS.out] <;> simp <;> omega), rfl⟩
        · have HS := key true (by unfold shows; simp; omega)
          have d1 : ((r : Int) != 34) = true := by simp; omega
          have d2 : ((r : Int) != 92) = true := by simp; omega
          have H4 := Lib.hid c4
          have H5 := Lib.hid c5
          clear key c4 c5
          go_enter Tryd.func42, Tryd.ntmps42
          go_wp2
          all_goals go_ret
          all_goals exact ⟨ret_bool (by rw [HS.out] <;> simp <;> omega), rfl⟩
    · have HS := key false (by unfold shows; simp; omega)
      clear key
      go_enter Tryd.func42, Tryd.ntmps42
      go_wp2
      all_goals go_ret
      all_goals exact ⟨ret_bool (by rw [HS.out] <;> simp <;> omega), rfl⟩
  · have HS := key false (by unfold shows; simp; omega)
    clear key
    go_enter Tryd.func42, Tryd.ntmps42
    go_wp2
    all_goals go_ret
    all_goals exact ⟨ret_bool (by rw [HS.out] <;> simp <;> omega), rfl⟩

/-- A value with the bytes l, in a row from B on, or nil. -/
def Own (w : World) (B : Nat) (v : Value) (l : List UInt8) : Prop := w.ownsRow B 5 1 v l.length (Lib.byteCells l)

theorem own_of {w : World} {B n : Nat} {v : Value} {xs : List Value} {l : List UInt8} (h : w.ownsRow B 5 1 v n xs) (e : xs = Lib.byteCells l) : Own w B v l := by
  subst e
  have : n = l.length := by have := h.1; simpa [Lib.byteCells_length] using this.symm
  subst this
  exact h

/-- What appending leaves: the bytes l, of the blocks that were there none has turned but the row's. -/
def Grew (w w' : World) (B : Nat) (v : Value) (e : Ending) (l : List UInt8) : Prop := ∃ v', e = .returned v' ∧ Own w' B v' l ∧ w.grownBy w' v.ownBlock

theorem own_sl {w : World} {B : Nat} {v : Value} {l : List UInt8} (h : Own w B v l) : ∃ ao c, v = .slice ao l.length c := by
  rcases h.2 with ⟨rfl, hn⟩ | ⟨g, cap, cur, rfl, _⟩
  · exact ⟨none, 0, by rw [hn]⟩
  · exact ⟨_, _, rfl⟩

theorem gb_trans {a b c : World} {v v1 : Value} (h : a.grownBy b v.ownBlock) (hs : Sep a v v1) (k : b.grownBy c v1.ownBlock) : a.grownBy c v.ownBlock := by
  refine ⟨k.os.trans h.os, k.tape.trans h.tape, k.output.trans h.output, Nat.le_trans h.size k.size, fun i hi hne => ?_⟩
  refine (k.block i (Nat.lt_of_lt_of_le hi h.size) ?_).trans (h.block i hi hne)
  rcases hs with e | ⟨g, e, hg⟩
  · rw [e]; exact hne
  · rw [e]; intro e2; injection e2 with e2; omega

theorem sep_trans {a b : World} {v v1 v2 : Value} (h : Sep a v v1) (hsz : a.heap.size ≤ b.heap.size) (k : Sep b v1 v2) : Sep a v v2 := by
  rcases k with e | ⟨g, e, hg⟩
  · rcases h with e1 | ⟨g, e1, hg⟩
    · exact Or.inl (e.trans e1)
    · exact Or.inr ⟨g, e.trans e1, hg⟩
  · exact Or.inr ⟨g, e, Nat.le_trans hsz hg⟩

theorem gb_alloc {w w' : World} {o : Obj} {ob : Option Nat} (h : (w.alloc o).grownBy w' ob) : w.grownBy w' ob :=
  ⟨h.os, h.tape, h.output, by have := h.size; simp at this; omega, fun k hk hne => (h.block k (by simp; omega) hne).trans (Below.heap_alloc _ _ _ hk)⟩

theorem sep_alloc {w : World} {o : Obj} {v v' : Value} (h : Sep (w.alloc o) v v') : Sep w v v' := by
  rcases h with e | ⟨g, e, hg⟩
  · exact Or.inl e
  · exact Or.inr ⟨g, e, by simp at hg; omega⟩

/-- The digits to the base 16 of a number, so many of them. -/
def digs (d n : Nat) : List UInt8 := (List.range d).map fun i => hexd (n / 16 ^ (d - 1 - i) % 16)

theorem digs2 (n : Nat) : digs 2 n = [hexd (n / 16 % 16), hexd (n % 16)] := by simp [digs, List.range_succ]
theorem digs4 (n : Nat) : digs 4 n = [hexd (n / 4096 % 16), hexd (n / 256 % 16), hexd (n / 16 % 16), hexd (n % 16)] := by simp [digs, List.range_succ]

theorem take_digs (d n i : Nat) (h : i < d) : (digs d n).take (i + 1) = (digs d n).take i ++ [hexd (n / 16 ^ (d - 1 - i) % 16)] := by
  have hl : (digs d n).length = d := by simp [digs]
  rw [List.take_add_one, List.getElem?_eq_getElem (by omega)]
  simp [digs]

theorem digs_length (d n : Nat) : (digs d n).length = d := by simp [digs]

theorem and15 (n k : Nat) (hn : n < 4294967296) : bits .and .u32 ((n : Int) / 2 ^ (4 * k)) 15 = ((n / 16 ^ k % 16 : Nat) : Int) := by
  have hp : (2 : Nat) ^ (4 * k) = 16 ^ k := by rw [Nat.pow_mul]
  have hle : n / 16 ^ k ≤ n := Nat.div_le_self _ _
  have e : ((n : Int) / 2 ^ (4 * k)) = ((n / 16 ^ k : Nat) : Int) := by
    rw [← hp, Int.natCast_ediv, Int.natCast_pow]
    rfl
  rw [e]
  have hx : n / 16 ^ k < 4294967296 := by omega
  clear e hle hp
  generalize n / 16 ^ k = x at *
  have h := bits_mask .u32 32 (by decide) wraps_u32 4 (by decide) (x : Int) (by omega) (by omega)
  simpa using h

theorem hex_fin : ∀ m : Fin 16, ((⟨#[48, 49, 50, 51, 52, 53, 54, 55, 56, 57, 97, 98, 99, 100, 101, 102]⟩ : ByteArray)[m.val]'(by have := m.isLt; show m.val < 16; omega)) = hexd m.val := by decide +kernel

set_option maxHeartbeats 1600000 in
set_option maxRecDepth 100000 in
theorem escape_any (B d n : Nat) (sign : UInt8) (v : Value) (l : List UInt8) (w : World) (hd : d ≤ 4) (hd1 : 1 ≤ d) (hn : n < 4294967296) (hl : l.length ≤ 70368744177664) (hown : Own w B v l) (hB : B ≤ w.heap.size) :
    Calls Tryd.prog 41 #[v, .int .u8 sign.toNat, .int .i64 d, .int .u32 n] w fun e w' => Grew w w' B v e (l ++ (92 :: sign :: digs d n)) := by
  obtain ⟨i0, hi, hz0, hz1, hz2⟩ := info_parts Tryd.info5q
  have hsg := sign.toNat_lt
  go_enter Tryd.func41, Tryd.ntmps41
  go_wp2_with (at_builtin; refine wpList_append_sep _ rfl _ _ 61 rfl B 5 i0 (.int .u8 0) 1 1 Tryd.underlying61 hi hz0 hz1 hz2 rfl (by decide) _ _ _ rfl (hown.alloc _) ⟨w.heap.size, 0, none⟩ 2 2 [Value.int .u8 92, Value.int .u8 (sign.toNat : Nat)] rfl rfl ?c1 ?c2 ?c3 ?c4 ?c5 ?_)
  case c1 =>
    intro j u hj
    match j, hj with
    | 0, hj => simp at hj; subst hj; simp [Addr.add]
    | 1, hj => simp at hj; subst hj; simp [Addr.add]
  case c2 => intro u hu; simp at hu; rcases hu with rfl | rfl <;> rfl
  case c3 => unfold maxLen; omega
  case c4 => omega
  case c5 => simp; omega
  intro v1 w1 hown1 hgrow1 hsep1
  have ho1 : Own w1 B v1 (l ++ [92, sign]) := by
    unfold Own
    rw [List.length_append, Lib.byteCells_append]
    exact hown1
  have hg1 := gb_alloc hgrow1
  have hs1 := sep_alloc hsep1
  have hB1 : B ≤ w1.heap.size := Nat.le_trans hB hg1.size
  clear hown1 hgrow1 hsep1
  go_wp2
  go_loopw [0, 15] (fun vv vi wr => ∃ i : Nat, vi = .int .i64 i ∧ i ≤ d ∧ Own wr B vv (l ++ [92, sign] ++ (digs d n).take i) ∧ w.grownBy wr v.ownBlock ∧ Sep w v vv) (fun _ vi _ => d - (intOf vi).toNat)
  case atStart => exact ⟨0, rfl, Nat.zero_le _, by simpa using ho1, hg1, hs1⟩
  case round =>
    obtain ⟨i, rfl, hi1, ho, hg, hs⟩ := hrel
    have hBw : B ≤ wr.heap.size := Nat.le_trans hB hg.size
    by_cases hlt : i < d
    · have hand := and15 n (d - 1 - i) hn
      have htk := Lib.hid (take_digs d n i hlt)
      have hm : n / 16 ^ (d - 1 - i) % 16 < 16 := Nat.mod_lt _ (by omega)
      generalize n / 16 ^ (d - 1 - i) % 16 = m at *
      have hhex := hex_fin ⟨m, hm⟩
      simp only at hhex
      have hll : ((digs d n).take i).length = i := by rw [List.length_take, digs_length]; omega
      have HL := Lib.hid hll
      clear hll
      go_wp2_with (at_builtin; refine wpList_append_sep _ rfl _ _ 61 rfl B 5 i0 (.int .u8 0) 1 1 Tryd.underlying61 hi hz0 hz1 hz2 rfl (by decide) _ _ _ rfl (ho.alloc _) ⟨wr.heap.size, 0, none⟩ 1 1 [Value.int .u8 ((hexd m).toNat : Nat)] rfl rfl ?c1 ?c2 ?c3 ?c4 ?c5 ?_)
      case c1 =>
        intro j u hj
        match j, hj with
        | 0, hj => simp at hj; subst hj; simp [Addr.add]
      case c2 => intro u hu; simp at hu; subst hu; rfl
      case c3 => have := HL.out; unfold maxLen; simp at this ⊢; omega
      case c4 => have := HL.out; simp at this ⊢; omega
      case c5 => simp; omega
      intro v2 w2 hown2 hgrow2 hsep2
      have hg2 := gb_trans hg hs (gb_alloc hgrow2)
      have hs2 := sep_trans hs hg.size (sep_alloc hsep2)
      have ho2 : Own w2 B v2 (l ++ [92, sign] ++ (digs d n).take (i + 1)) := by
        rw [htk.out, ← List.append_assoc]
        exact own_of hown2 (by simp [Lib.byteCells])
      have HO := Lib.hid ho2
      clear hown2 hgrow2 hsep2 ho2 hhex hand
      go_wp2
      go_roundw
      case rel => exact ⟨i + 1, by go_num, by omega, HO.out, hg2, hs2⟩
      case measure => simp [intOf]; omega
    · have hid : i = d := by omega
      subst hid
      go_wp2
      go_ret
      refine ⟨_, rfl, ?_, hg⟩
      rw [show (digs i n).take i = digs i n by rw [List.take_of_length_le (by rw [digs_length]; exact Nat.le_refl _)]] at ho
      simpa using ho
end Go.Proofs.YtbghemndcndhpaaDoor
