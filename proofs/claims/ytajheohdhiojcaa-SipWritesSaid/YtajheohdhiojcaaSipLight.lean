/- The law's own 'light' (bowerlaw01.light): where it answers true, there are at most 40 items, and no text is longer than 300 bytes. Condition: the list's cells are there. -/
import Derived.Test.YtajheohdhiojcaaSipLives
namespace Go.Proofs.Ytajheohdhiojcaa
open Go.RowKit

/-- An item's fields. -/
structure It where
  kind : Int
  num : Nat
  int : Int
  text : ByteArray
  most : Int

def It.vals (x : It) : List Value := [.int .i64 x.kind, .int .u64 x.num, .int .i64 x.int, .string x.text, .int .i64 x.most]

def It.ok (x : It) : Prop := x.num < 18446744073709551616 ∧ (-9223372036854775808 ≤ x.int ∧ x.int ≤ 9223372036854775807) ∧ x.text.size ≤ 9223372036854775807

/-- The list's items lie in the world, in blocks below N. -/
def Items (w : World) (N : Nat) (ao : Option Addr) (len : Nat) (X : Nat → It) : Prop :=
  ∀ i, i < len → ∃ b off, ao = some ⟨b, off, none⟩ ∧ b < N ∧ ∀ j v, (X i).vals[j]? = some v → w.cell? ⟨b, off + i * 5 + j, none⟩ = some v

theorem Items.keep {w w' : World} {N : Nat} {ao : Option Addr} {len : Nat} {X : Nat → It} (h : Items w N ao len X) (hb : Below N w w') : Items w' N ao len X := by
  intro i hi
  obtain ⟨b, off, e, hlt, hc⟩ := h i hi
  exact ⟨b, off, e, hlt, fun j v hv => (hb.cell (p := ⟨b, off + i * 5 + j, none⟩) hlt).trans (hc j v hv)⟩

def LightDone (w w' : World) (e : Ending) (len : Nat) (X : Nat → It) : Prop :=
  ∃ b, e = .returned (.bool b) ∧ (b = true → (∀ i, i < len → (X i).text.size ≤ 300) ∧ len ≤ 40) ∧ Below w.heap.size w w'

set_option maxHeartbeats 1600000 in
set_option maxRecDepth 100000 in
theorem light_any (ao : Option Addr) (len cap : Nat) (X : Nat → It) (w : World) (hx : Items w w.heap.size ao len X) (hok : ∀ i, i < len → (X i).ok) (hlen : len ≤ 9223372036854775807) :
    Calls Try.prog 15 #[.slice ao len cap] w fun e w' => LightDone w w' e len X := by
  have HX := Lib.hid hx
  have HK := Lib.hid hok
  clear hx hok
  go_enter Try.func15, Try.ntmps15
  go_wp2
  go_loopw [7] (fun vj wr => ∃ j : Nat, vj = .int .i64 j ∧ j ≤ len ∧ Hid (∀ i, i < j → (X i).text.size ≤ 300) ∧ Below w.heap.size w wr) (fun vj _ => len - (intOf vj).toNat)
  case atStart => exact ⟨0, rfl, Nat.zero_le _, Lib.hid (fun i hi => absurd hi (Nat.not_lt_zero _)), Below.refl _ _⟩
  case round =>
    obtain ⟨j, rfl, hj, hall, hb⟩ := hrel
    by_cases hlt : j < len
    · obtain ⟨b, off, rfl, hbN, hc⟩ := (HX.out.keep hb) j hlt
      have hk := HK.out j hlt
      have HA := hall
      clear hall
      generalize hxj : X j = x at *
      have HJ := Lib.hid hxj
      clear hxj
      obtain ⟨kind, num, int, text, most⟩ := x
      have c0 := hc 0 _ rfl
      have c1 := hc 1 _ rfl
      have c2 := hc 2 _ rfl
      have c3 := hc 3 _ rfl
      have c4 := hc 4 _ rfl
      have hs : text.size ≤ 9223372036854775807 := hk.2.2
      clear hc hk
      rw [Nat.add_zero] at c0
      go_wp2
      · go_ret
        exact ⟨false, rfl, fun h => absurd h (by simp), hb.alloc hb.size _⟩
      · have hsm : (text.size : Int) ≤ 300 := by assumption
        go_roundw
        case rel =>
          refine ⟨j + 1, by go_num, by omega, fun i hi => ?_, hb.alloc hb.size _⟩
          by_cases e : i = j
          · subst e; rw [HJ.out]; show text.size ≤ 300; omega
          · exact HA.out i (by omega)
        case measure => simp [intOf]; omega
    · have hjl : j = len := by omega
      subst hjl
      go_wp2
      go_ret
      refine ⟨_, rfl, fun h => ⟨hall.out, ?_⟩, hb⟩
      have h' := h
      simp at h'
      omega
end Go.Proofs.Ytajheohdhiojcaa
