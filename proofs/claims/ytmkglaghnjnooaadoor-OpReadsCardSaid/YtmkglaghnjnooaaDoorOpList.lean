/- Lists of operations in memory; bowerlaw16.Light; op.Write; the law's own lives. Conditions: the list's cells are there; the table of names. -/
import Derived.Test.YtmkglaghnjnooaaDoorOpWrite
import Derived.Test.YtmkglaghnjnooaaDoorEyeText
import Derived.Deep.RegionHeldLaw
namespace Go.Proofs.YtmkglaghnjnooaaDoor
open Go.RowKit

/-- An operation's fields. -/
structure OpV where
  k : Int
  key : ByteArray
  tx : ByteArray
  v : Nat
  lim : Int
def OpV.vals (x : OpV) : List Value := [.int .i64 x.k, .string x.key, .string x.tx, .int .u64 x.v, .int .i64 x.lim]
def OpV.ok (x : OpV) : Prop := x.v < 18446744073709551616 ∧ (x.key.size ≤ 9223372036854775807 ∧ x.tx.size ≤ 9223372036854775807)
/-- Are the texts short? -/
def OpV.short (x : OpV) : Prop := x.key.size ≤ 200 ∧ x.tx.size ≤ 200
def OpV.bytes (x : OpV) : List UInt8 := opBytes x.k x.key x.tx x.v x.lim

/-- The list's operations lie in the world, in blocks below N. -/
def Ops (w : World) (N : Nat) (ao : Option Addr) (len : Nat) (X : Nat → OpV) : Prop :=
  ∀ i, i < len → ∃ b off, ao = some ⟨b, off, none⟩ ∧ b < N ∧ ∀ j v, (X i).vals[j]? = some v → w.cell? ⟨b, off + i * 5 + j, none⟩ = some v
theorem Ops.keep {w w' : World} {N : Nat} {ao : Option Addr} {len : Nat} {X : Nat → OpV} (h : Ops w N ao len X) (hb : Below N w w') : Ops w' N ao len X := by
  intro i hi
  obtain ⟨b, off, e, hlt, hc⟩ := h i hi
  exact ⟨b, off, e, hlt, fun j v hv => (hb.cell (p := ⟨b, off + i * 5 + j, none⟩) hlt).trans (hc j v hv)⟩

theorem opBytes_len (x : OpV) (h : x.v < 18446744073709551616) (hs : x.short) : 1 ≤ x.bytes.length ∧ x.bytes.length ≤ 500 := by
  obtain ⟨h1, h2⟩ := hs
  unfold OpV.bytes opBytes
  split
  · rename_i hsd
    obtain ⟨⟨a1, a2⟩, _, a3⟩ := opSound_parts hsd
    have u1 := Lib.uvarint_length64 (x := x.k.toNat) (by omega)
    have p1 := Lib.uvarint_pos x.k.toNat
    have u2 := Lib.uvarint_length64 (x := x.key.size) (by omega)
    have u3 := Lib.uvarint_length64 (x := x.tx.size) (by omega)
    have u4 := Lib.uvarint_length64 h
    have k1 : (if usK x.k = true then txtL x.key else []).length ≤ 210 := by
      split
      · unfold txtL; rw [List.length_append, size_list]; omega
      · simp
    have k2 : (if usT x.k = true then txtL x.tx else []).length ≤ 210 := by
      split
      · unfold txtL; rw [List.length_append, size_list]; omega
      · simp
    have k3 : (if usV x.k = true then Lib.uvarint x.v else []).length ≤ 10 := by
      split
      · exact u4
      · simp
    have k4 : (if usT x.k = true then Lib.uvarint x.lim.toNat else []).length ≤ 10 := by
      split
      · rename_i ht
        have := (a3 ht).2
        exact Lib.uvarint_length64 (by omega)
      · simp
    unfold opBytesU
    rw [List.length_append, List.length_append, List.length_append, List.length_append]
    omega
  · have u1 := Lib.uvarint_length64 (x := 0) (by omega)
    have p1 := Lib.uvarint_pos 0
    omega

/-- The bytes of the first n operations. -/
def opsB (X : Nat → OpV) (n : Nat) : List UInt8 := (List.range n).flatMap fun i => (X i).bytes
theorem opsB_zero (X : Nat → OpV) : opsB X 0 = [] := rfl
theorem opsB_succ (X : Nat → OpV) (n : Nat) : opsB X (n + 1) = opsB X n ++ (X n).bytes := by
  unfold opsB
  rw [List.range_succ, List.flatMap_append]
  simp

def OLight (w w' : World) (e : Ending) (len : Nat) (X : Nat → OpV) : Prop :=
  ∃ b, e = .returned (.bool b) ∧ (b = true → (∀ i, i < len → (X i).short) ∧ len ≤ 40) ∧ Below w.heap.size w w'

set_option maxHeartbeats 1600000 in
set_option maxRecDepth 100000 in
theorem olight_any (ao : Option Addr) (len cap : Nat) (X : Nat → OpV) (w : World) (hx : Ops w w.heap.size ao len X) (hok : ∀ i, i < len → (X i).ok) (hlen : len ≤ 9223372036854775807) :
    Calls Tryd.prog 6 #[.slice ao len cap] w fun e w' => OLight w w' e len X := by
  have HX := Lib.hid hx
  have HK := Lib.hid hok
  clear hx hok
  go_enter Tryd.func6, Tryd.ntmps6
  go_wp2
  go_loopw [7] (fun vj wr => ∃ j : Nat, vj = .int .i64 j ∧ j ≤ len ∧ Hid (∀ i, i < j → (X i).short) ∧ Below w.heap.size w wr) (fun vj _ => len - (intOf vj).toNat)
  case atStart => exact ⟨0, rfl, Nat.zero_le _, Lib.hid (fun i hi => absurd hi (Nat.not_lt_zero _)), Below.refl _ _⟩
  case round =>
    obtain ⟨j, rfl, hj, hall, hb⟩ := hrel
    by_cases hlt : j < len
    · obtain ⟨b, off, rfl, hbN, hc⟩ := (HX.out.keep hb) j hlt
      have hk := HK.out j hlt
      have HA := hall
      clear hall
      generalize hxj : X j = x at *
      have HJ := Lib.hid hxj
      clear hxj
      obtain ⟨kk, key, tx, v, lim⟩ := x
      have c0 := hc 0 _ rfl
      have c1 := hc 1 _ rfl
      have c2 := hc 2 _ rfl
      have c3 := hc 3 _ rfl
      have c4 := hc 4 _ rfl
      have hs1 : key.size ≤ 9223372036854775807 := hk.2.1
      have hs2 : tx.size ≤ 9223372036854775807 := hk.2.2
      clear hc hk
      rw [Nat.add_zero] at c0
      by_cases g1 : (200 : Int) < key.size
      · go_wp2
        go_ret
        exact ⟨false, rfl, fun h => absurd h (by simp), hb.alloc hb.size _⟩
      · by_cases g2 : (200 : Int) < tx.size
        · go_wp2
          go_ret
          exact ⟨false, rfl, fun h => absurd h (by simp), hb.alloc hb.size _⟩
        · have HS : Hid (key.size ≤ 200 ∧ tx.size ≤ 200) := Lib.hid ⟨by omega, by omega⟩
          go_wp2
          go_roundw
          case rel =>
            refine ⟨j + 1, by go_num, by omega, Lib.hid (fun i hi => ?_), hb.alloc hb.size _⟩
            by_cases e : i = j
            · subst e; rw [HJ.out]; exact HS.out
            · exact HA.out i (by omega)
          case measure => simp [intOf]; omega
    · have hjl : j = len := by omega
      subst hjl
      go_wp2
      go_ret
      refine ⟨_, rfl, fun h => ⟨hall.out, ?_⟩, hb⟩
      have h' := h
      simp at h'
      omega

set_option maxHeartbeats 3200000 in
set_option maxRecDepth 100000 in
theorem opWriteL_any (B pb : Nat) (ao : Option Addr) (len cap : Nat) (X : Nat → OpV) (l : List UInt8) (w : World) (hx : Ops w w.heap.size ao len X) (hok : ∀ i, i < len → (X i).ok) (hsh : ∀ i, i < len → (X i).short) (h40 : len ≤ 40) (hl : l.length ≤ 1048576) (hpen : Pen w B pb l) (hB : B ≤ w.heap.size)
    (hap : 0 < len → ∀ b off, ao = some ⟨b, off, none⟩ → b ≠ pb ∧ some b ≠ penRow w pb) :
    Calls Tryd.prog 16 #[.pointer (some ⟨pb, 0, none⟩), .slice ao len cap] w fun e w' => e = .returned (.tuple #[]) ∧ DigitsDone w w' B pb (l ++ opsB X len) := by
  have HX := Lib.hid hx
  have HK := Lib.hid hok
  have HS := Lib.hid hsh
  have HAP := Lib.hid hap
  have hlt0 := hpen.lt
  have HP0 := Lib.hid hpen
  clear hx hok hsh hap hpen
  go_enter Tryd.func16, Tryd.ntmps16
  go_wp2
  go_loopw [8] (fun vj wr => ∃ j : Nat, vj = .int .i64 j ∧ j ≤ len ∧ Hid (DigitsDone w wr B pb (l ++ opsB X j) ∧ (opsB X j).length ≤ 500 * j)) (fun vj _ => len - (intOf vj).toNat)
  case atStart => exact ⟨0, rfl, Nat.zero_le _, Lib.hid ⟨⟨by rw [opsB_zero, List.append_nil]; exact HP0.out, Wr.refl _ _⟩, by rw [opsB_zero]; exact Nat.zero_le _⟩⟩
  case round =>
    obtain ⟨j, rfl, hj, hd⟩ := hrel
    by_cases hlt : j < len
    · obtain ⟨b, off, rfl, hbN, hc0⟩ := HX.out j hlt
      obtain ⟨ha1, ha2⟩ := HAP.out (by omega) b off rfl
      have hk := HK.out j hlt
      have hs := HS.out j hlt
      have hln := opBytes_len _ hk.1 hs
      have HSU := Lib.hid (opsB_succ X j)
      have hc : ∀ i v, (X j).vals[i]? = some v → wr.cell? ⟨b, off + j * 5 + i, none⟩ = some v := fun i v hv => (hd.out.1.2.cell (p := ⟨b, off + j * 5 + i, none⟩) hbN ha1 ha2).trans (hc0 i v hv)
      clear hc0
      unfold OpV.bytes at hln HSU
      generalize hxj : X j = x at *
      clear hxj
      obtain ⟨kk, key, tx, v, lim⟩ := x
      have c0 := hc 0 _ rfl
      have c1 := hc 1 _ rfl
      have c2 := hc 2 _ rfl
      have c3 := hc 3 _ rfl
      have c4 := hc 4 _ rfl
      obtain ⟨k1, _⟩ := hk
      obtain ⟨s1, s2⟩ := hs
      simp only at k1 s1 s2 hln HSU
      clear hc
      rw [Nat.add_zero] at c0
      have hbl := hd.out.2
      have HLN : Hid ((l ++ opsB X j).length ≤ 1099511627776) := Lib.hid (by rw [List.length_append]; omega)
      have hBw : B ≤ wr.heap.size := Nat.le_trans hB hd.out.1.2.size
      go_wp2_with fail
      refine (opWrite1_any B pb kk key tx v lim (l ++ opsB X j) _ (by omega) (by omega) k1 HLN.out (hd.out.1.1.alloc _) (by simp; omega)).mono ?_
      rintro e w2 ⟨rfl, hd2⟩
      have HD2 : Hid (DigitsDone w w2 B pb (l ++ opsB X (j + 1)) ∧ (opsB X (j + 1)).length ≤ 500 * (j + 1)) := Lib.hid ⟨⟨by rw [HSU.out, ← List.append_assoc]; exact hd2.1, (hd.out.1.2.alloc hd.out.1.1.lt _).trans hd2.2⟩, by rw [HSU.out, List.length_append]; omega⟩
      clear hd2 c0 c1 c2 c3 c4
      go_wp2
      go_roundw
      case rel => exact ⟨j + 1, by go_num, by omega, HD2⟩
      case measure => simp [intOf]; omega
    · have hjl : j = len := by omega
      subst hjl
      go_wp2
      go_end0
      exact ⟨rfl, hd.out.1⟩

/-- The two operations of lives. -/
def livesX (i : Nat) : OpV := if i = 0 then ⟨1, ⟨#[97]⟩, ⟨#[]⟩, 7, 0⟩ else ⟨10, ⟨#[97]⟩, ⟨#[98]⟩, 0, 5⟩
theorem livesX_bytes : opsB livesX 2 = [1, 1, 97, 10, 1, 97, 1, 98, 5] := by
  have u1 : Lib.uvarint 1 = [1] := Lib.uvarint_small (by omega)
  have u5 : Lib.uvarint 5 = [5] := Lib.uvarint_small (by omega)
  have u10 : Lib.uvarint 10 = [10] := Lib.uvarint_small (by omega)
  have e0 : (livesX 0).bytes = [1, 1, 97] := by
    show opBytes 1 ⟨#[97]⟩ ⟨#[]⟩ 7 0 = _
    unfold opBytes
    rw [if_pos (by kernel_rfl)]
    unfold opBytesU
    rw [if_pos (by kernel_rfl), if_neg (by decide +kernel), if_neg (by decide +kernel), if_neg (by decide +kernel)]
    show Lib.uvarint 1 ++ ((Lib.uvarint 1 ++ [97]) ++ ([] ++ ([] ++ []))) = _
    rw [u1]; rfl
  have e1 : (livesX 1).bytes = [10, 1, 97, 1, 98, 5] := by
    show opBytes 10 ⟨#[97]⟩ ⟨#[98]⟩ 0 5 = _
    unfold opBytes
    rw [if_pos (by kernel_rfl)]
    unfold opBytesU
    rw [if_pos (by kernel_rfl), if_pos (by kernel_rfl), if_neg (by decide +kernel), if_pos (by kernel_rfl)]
    show Lib.uvarint 10 ++ ((Lib.uvarint 1 ++ [97]) ++ ((Lib.uvarint 1 ++ [98]) ++ ([] ++ Lib.uvarint 5))) = _
    rw [u1, u5, u10]; rfl
  rw [opsB_succ, opsB_succ, opsB_zero, e0, e1]
  rfl
end Go.Proofs.YtmkglaghnjnooaaDoor
