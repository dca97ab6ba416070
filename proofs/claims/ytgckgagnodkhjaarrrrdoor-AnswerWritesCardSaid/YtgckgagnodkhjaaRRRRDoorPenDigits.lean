/- (*sip.Pen).digits appends a number's digits to the base 128 to what the pen has. Conditions: a number below 2^64; fewer than 2^46 bytes written. -/
import Derived.Test.YtgckgagnodkhjaaRRRRDoorSipMath
import Derived.Test.YtgckgagnodkhjaaRRRRDoorPenWorld
import Derived.Test.YtgckgagnodkhjaaRRRRDoorShelf
import Derived.Lib.Hide
import Derived.Lib.VarintBits
import Derived.Outline
namespace Go.Proofs.YtgckgagnodkhjaaRRRRDoor
open Go.RowKit

theorem Tryd.info5 : (Tryd.prog.info? 5).map (fun i => (i.zero, i.size, i.bytes)) = some (some (.int .u8 0), 1, 1) := by kernel_rfl

theorem own_slice {w : World} {B : Nat} {e : TypeId} {size n : Nat} {v : Value} {xs : List Value} (h : w.ownsRow B e size v n xs) : ∃ ao c, v = .slice ao n c := by
  rcases h.2 with ⟨rfl, rfl⟩ | ⟨g, cap, cur, rfl, _⟩
  · exact ⟨_, _, rfl⟩
  · exact ⟨_, _, rfl⟩

theorem or1_u64 (x : Nat) (hx : x < 18446744073709551616) : bits .or .u64 (x : Int) 1 = ((x ||| 1 : Nat) : Int) := by
  have h := (bits_nat .u64 64 (by decide) wraps_u64 x 1 (by simpa using hx) (by decide)).2
  exact h

/-- One byte behind what the pen has: the pen's cell where the new value is stored, and what comes of it. -/
theorem one_step {w w1 : World} {B pb n : Nat} {l : List UInt8} {v v' : Value} {b : UInt8} {z : Int} {xs : List Value}
    (h1 : w.heap[pb]? = some (.cells #[v] 38 (0, 0))) (h3 : v.ownBlock ≠ some pb) (h4 : B ≤ pb) (hb : ((b.toNat : Nat) : Int) = z)
    (hown : w1.ownsRow B 5 1 v' n (Lib.byteCells l ++ [Value.int .u8 z])) (hg : (w.alloc (.cells xs.toArray 5)).grownBy w1 v.ownBlock) (hsep : Sep (w.alloc (.cells xs.toArray 5)) v v') :
    w1.cell? ⟨pb, 0, none⟩ = some v ∧ w1.frozen? ⟨pb, 0, none⟩ = false ∧ (Pen (w1.setCell ⟨pb, 0, none⟩ v') B pb (l ++ [b]) ∧ Wr pb w (w1.setCell ⟨pb, 0, none⟩ v')) := by
  have hlt := lt_of_block h1
  have e : w1.heap[pb]? = some (.cells #[v] 38 (0, 0)) := by
    rw [hg.block pb (by simp; omega) (fun e => h3 e.symm), Below.heap_alloc _ _ _ hlt]; exact h1
  refine ⟨cell_of_one e, free_of_one e, ?_⟩
  have hn : n = l.length + 1 := by have := hown.1; simpa [Lib.byteCells_length] using this.symm
  subst hn
  refine pen_step h1 h3 h4 (fun k hk => Below.heap_alloc w _ k hk) (by simp) rfl rfl rfl ?_ hg hsep
  have eb : Lib.byteCells [b] = [Value.int .u8 z] := by simp [Lib.byteCells, hb]
  rw [eb]
  exact hown

def DigitsDone (w w' : World) (B pb : Nat) (l' : List UInt8) : Prop := Pen w' B pb l' ∧ Wr pb w w'

set_option maxHeartbeats 1600000 in
set_option maxRecDepth 100000 in
theorem digits_any (B pb x : Nat) (l : List UInt8) (w : World) (hx : x < 18446744073709551616) (hl : l.length ≤ 70368744177664) (hpen : Pen w B pb l) (hB : B ≤ w.heap.size) :
    Calls Tryd.prog 33 #[.pointer (some ⟨pb, 0, none⟩), .int .u64 x] w fun e w' => e = .returned (.tuple #[]) ∧ DigitsDone w w' B pb (l ++ Lib.uvarint x) := by
  obtain ⟨i0, hi, hz0, hz1, hz2⟩ := info_parts Tryd.info5
  have hlen := Lib.uvarint_length64 hx
  have hdb := Lib.hid (digits_bits x hx)
  have hb1 := (bitLen_pos1 x hx).1
  have hb2 := (bitLen_pos1 x hx).2
  have hor := or1_u64 x hx
  have hlt1 : (x ||| 1) < 18446744073709551616 := Nat.or_lt_two_pow (n := 64) hx (by decide)
  go_enter Tryd.func33, Tryd.ntmps33
  go_wp2_with fail
  refine (Tryd.bits_Len64 _ _ (by omega) (by omega)).mono ?_
  rintro e w' ⟨rfl, hw⟩
  subst w'
  rw [Int.toNat_natCast]
  clear hor
  generalize Lib.bitLen (x ||| 1) = n at *
  go_wp2
  go_loopw [1, 11] (fun vy vj wr => ∃ (y : Nat) (pre : List UInt8), vy = .int .u64 y ∧ vj = .int .i64 pre.length ∧ y ≤ x ∧ Lib.uvarint x = pre ++ Lib.uvarint y ∧ DigitsDone w wr B pb (l ++ pre)) (fun _ vj _ => 10 - (intOf vj).toNat)
  case atStart => exact ⟨x, [], rfl, rfl, Nat.le_refl _, rfl, by simpa using hpen, Wr.refl _ _⟩
  case round =>
    obtain ⟨y, pre, rfl, rfl, hy, hsplit, hdone⟩ := hrel
    have hsl : (Lib.uvarint x).length = pre.length + (Lib.uvarint y).length := by rw [hsplit, List.length_append]
    have hyp := Lib.uvarint_pos y
    have hyl : (Lib.uvarint y).length = 1 ↔ y < 128 := uvarint_one_iff y
    have hpl : pre.length ≤ 10 := by omega
    obtain ⟨⟨v, h1, h2, h3, h4⟩, hwr⟩ := hdone
    have hcell := cell_of_one h1
    have hfree := free_of_one h1
    have hpb := lt_of_block h1
    have hBw : B ≤ wr.heap.size := Nat.le_trans hB hwr.size
    by_cases h128 : 128 ≤ y
    · have hlt : (pre.length : Int) < ((n : Int) - 1) / 7 := by have := hdb.out; omega
      have HS := Lib.hid hsplit
      clear hsplit hsl hyl
      have hor : bits .or .u8 ((y : Int) % 256) 128 = ((y % 128 + 128 : Nat) : Int) := by
        rw [Lib.u8_or128_any _ (by omega) (by omega)]
        omega
      go_wp2_with (at_builtin; refine wpList_append_sep _ rfl _ _ 36 rfl B 5 i0 (.int .u8 0) 1 1 Tryd.underlying36 hi hz0 hz1 hz2 rfl (by decide) _ _ _ rfl (h2.alloc _) ⟨wr.heap.size, 0, none⟩ 1 1 [Value.int .u8 ((y % 128 + 128 : Nat) : Int)] rfl rfl ?c1 ?c2 ?c3 ?c4 ?c5 ?_)
      case c1 =>
        intro j u hj
        match j, hj with
        | 0, hj => simp at hj; subst hj; simp [Addr.add]
      case c2 => intro u hu; simp at hu; subst hu; rfl
      case c3 => unfold maxLen; simp; omega
      case c4 => simp; omega
      case c5 => simp; omega
      intro v' w1 hown hgrow hsep
      have hR := one_step h1 h3 h4 (b := (y % 128 + 128).toUInt8) (by rw [Lib.toUInt8_toNat (by omega)]; omega) hown hgrow hsep
      obtain ⟨ao, cp, rfl⟩ := own_slice hown
      have k0 := hR.1
      have k1 := hR.2.1
      have HR := Lib.hid hR.2.2
      clear hR hown hgrow hsep
      go_wp2
      go_roundw
      case rel =>
        refine ⟨y / 128, pre ++ [(y % 128 + 128).toUInt8], by go_num, by simp, by omega, by rw [HS.out, Lib.uvarint_big h128]; simp, ?_⟩
        have := HR.out
        rw [List.append_assoc] at this
        exact ⟨this.1, hwr.trans this.2⟩
      case measure => simp [intOf]; omega
    · have hlt : ((n : Int) - 1) / 7 ≤ (pre.length : Int) := by have := hdb.out; omega
      have HS := Lib.hid hsplit
      have hsm : Lib.uvarint y = [y.toUInt8] := Lib.uvarint_small (by omega)
      have HM := Lib.hid hsm
      clear hsplit hsl hyl hsm
      go_wp2_with (at_builtin; refine wpList_append_sep _ rfl _ _ 36 rfl B 5 i0 (.int .u8 0) 1 1 Tryd.underlying36 hi hz0 hz1 hz2 rfl (by decide) _ _ _ rfl (h2.alloc _) ⟨wr.heap.size, 0, none⟩ 1 1 [Value.int .u8 (y : Int)] rfl rfl ?c1 ?c2 ?c3 ?c4 ?c5 ?_)
      case c1 =>
        intro j u hj
        match j, hj with
        | 0, hj => simp at hj; subst hj; simp [Addr.add]
      case c2 => intro u hu; simp at hu; subst hu; rfl
      case c3 => unfold maxLen; simp; omega
      case c4 => simp; omega
      case c5 => simp; omega
      intro v' w1 hown hgrow hsep
      have hR := one_step h1 h3 h4 (b := y.toUInt8) (by rw [Lib.toUInt8_toNat (by omega)]) hown hgrow hsep
      obtain ⟨ao, cp, rfl⟩ := own_slice hown
      have k0 := hR.1
      have k1 := hR.2.1
      have HR := Lib.hid hR.2.2
      clear hR hown hgrow hsep
      go_wp2
      go_end0
      refine ⟨rfl, ?_⟩
      have := HR.out
      rw [HS.out, HM.out, ← List.append_assoc]
      exact ⟨this.1, hwr.trans this.2⟩
end Go.Proofs.YtgckgagnodkhjaaRRRRDoor
