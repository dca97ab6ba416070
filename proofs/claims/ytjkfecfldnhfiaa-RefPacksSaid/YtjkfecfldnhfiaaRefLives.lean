/- The chapter's examples of ref, and the laws RefPacks and RefGates, walked. No condition but that words are words. -/
import Derived.Test.YtjkfecfldnhfiaaRefOwn
import Derived.Deep.RegionHeldLaw
namespace Go.Proofs.Ytjkfecfldnhfiaa
open Go.RowKit

theorem ex_pack : packW 0 1 = 16385 := by decide
theorem ex_use : useW 1 3 = 13 := by decide
theorem ex_shut : shutW 0 0 0 = 0 := by decide
theorem ex_shut2 : shutW 1 2 0 = 4755801206503243776 := by decide
theorem ex_open : openP 16385 = 0 ∧ openG 16385 = 1 ∧ openOk 16385 = true := by decide

set_option maxHeartbeats 4000000 in
set_option maxRecDepth 100000 in
theorem rlives_any (W : World) : Calls Try.prog 16 #[] W fun e W' => e = .returned (.bool true) ∧ Below W.heap.size W W' := by
  have HO : Hid (∀ W, Calls Try.prog 8 #[.int .u64 16385] W fun e W' => e = .returned (.tuple #[.int .i64 0, .int .u64 1, .bool true]) ∧ Below W.heap.size W W') := Lib.hid (fun W => by
    have h := open_any 16385 (by omega) W
    rw [ex_open.1, ex_open.2.1, ex_open.2.2] at h
    exact h)
  have HP : Hid (∀ W, Calls Try.prog 12 #[.int .i64 0, .int .u64 1] W fun e W' => e = .returned (.int .u64 16385) ∧ Below W.heap.size W W') := Lib.hid (fun W => by
    have h := pack_any 0 1 (by omega) (by omega) W
    rw [ex_pack] at h
    exact h)
  have HU : Hid (∀ W, Calls Try.prog 14 #[.int .i64 1, .int .u64 3] W fun e W' => e = .returned (.int .u64 13) ∧ Below W.heap.size W W') := Lib.hid (fun W => by
    have h := use_any 1 3 (by omega) (by omega) W
    rw [ex_use] at h
    exact h)
  have HS : Hid (∀ W, Calls Try.prog 19 #[.agg #[.int .i64 0, .int .i64 0, .int .u64 0]] W fun e W' => e = .returned (.int .u64 0) ∧ Below W.heap.size W W') := Lib.hid (fun W => by
    have h := shut_any 0 0 0 (by omega) (by omega) (by omega) W
    rw [ex_shut] at h
    exact h)
  have HS2 : Hid (∀ W, Calls Try.prog 19 #[.agg #[.int .i64 1, .int .i64 2, .int .u64 0]] W fun e W' => e = .returned (.int .u64 4755801206503243776) ∧ Below W.heap.size W W') := Lib.hid (fun W => by
    have h := shut_any 1 2 0 (by omega) (by omega) (by omega) W
    rw [ex_shut2] at h
    exact h)
  go_enter Try.func16, Try.ntmps16
  go_wp2_with (first
    | (go_at_call 8; (with_reducible refine (HO.out _).mono ?_); rintro e w1 ⟨rfl, hb1⟩)
    | (go_at_call 12; (with_reducible refine (HP.out _).mono ?_); rintro e w2 ⟨rfl, hb2⟩)
    | (go_at_call 14; (with_reducible refine (HU.out _).mono ?_); rintro e w3 ⟨rfl, hb3⟩)
    | (go_at_call 19; (with_reducible refine (HS.out _).mono ?_); rintro e w4 ⟨rfl, hb4⟩)
    | (go_at_call 19; (with_reducible refine (HS2.out _).mono ?_); rintro e w5 ⟨rfl, hb5⟩))
  go_ret
  exact ⟨rfl, (((hb1.trans (hb2.mono hb1.size)).trans (hb3.mono (hb1.trans (hb2.mono hb1.size)).size)).trans (hb4.mono ((hb1.trans (hb2.mono hb1.size)).trans (hb3.mono (hb1.trans (hb2.mono hb1.size)).size)).size)).trans (hb5.mono (((hb1.trans (hb2.mono hb1.size)).trans (hb3.mono (hb1.trans (hb2.mono hb1.size)).size)).trans (hb4.mono ((hb1.trans (hb2.mono hb1.size)).trans (hb3.mono (hb1.trans (hb2.mono hb1.size)).size)).size)).size)⟩

/-- Behind calls that leave all that was there as it was. -/
theorem go_on {W w1 w2 : World} (h : Below W.heap.size W w1) (h2 : Below w1.heap.size w1 w2) : Below W.heap.size W w2 := h.trans (h2.mono h.size)

set_option maxHeartbeats 4000000 in
set_option maxRecDepth 100000 in
theorem packs_any (p : Int) (g w : Nat) (hp : -9223372036854775808 ≤ p ∧ p ≤ 9223372036854775807) (hg : g < 18446744073709551616) (hw : w < 18446744073709551616) (W : World) :
    Calls Try.prog 3 #[.int .i64 p, .int .u64 g, .int .u64 w] W fun e W' => e = .returned (.bool true) ∧ Below W.heap.size W W' := by
  have H1 := Lib.hid (open_any w hw)
  have H2 := Lib.hid (dopen_any w hw)
  have H3 := Lib.hid (state_any w hw)
  have H4 := Lib.hid (dstate_any w hw)
  have H5 := Lib.hid (pack_any p g hp hg)
  have H6 := Lib.hid (dpack_any p g hp hg)
  have H7 := Lib.hid (use_any p g hp hg)
  have H8 := Lib.hid (duse_any p g hp hg)
  have HL := Lib.hid rlives_any
  generalize openP w = a1 at *
  generalize openG w = a2 at *
  generalize openOk w = a3 at *
  generalize stateS w = b1 at *
  generalize stateG w = b2 at *
  generalize stateOk w = b3 at *
  generalize packW p g = c1 at *
  generalize useW p g = c2 at *
  clear hp hg hw
  go_enter Try.func3, Try.ntmps3
  go_wp2_with (first
    | (go_at_call 8; (with_reducible refine (H1.out _).mono ?_); rintro e w1 ⟨rfl, hb1⟩)
    | (go_at_call 9; (with_reducible refine (H2.out _).mono ?_); rintro e w2 ⟨rfl, rfl⟩)
    | (go_at_call 10; (with_reducible refine (H3.out _).mono ?_); rintro e w3 ⟨rfl, hb3⟩)
    | (go_at_call 11; (with_reducible refine (H4.out _).mono ?_); rintro e w4 ⟨rfl, rfl⟩)
    | (go_at_call 12; (with_reducible refine (H5.out _).mono ?_); rintro e w5 ⟨rfl, hb5⟩)
    | (go_at_call 13; (with_reducible refine (H6.out _).mono ?_); rintro e w6 ⟨rfl, rfl⟩)
    | (go_at_call 14; (with_reducible refine (H7.out _).mono ?_); rintro e w7 ⟨rfl, hb7⟩)
    | (go_at_call 15; (with_reducible refine (H8.out _).mono ?_); rintro e w8 ⟨rfl, rfl⟩)
    | (go_at_call 16; (with_reducible refine (HL.out _).mono ?_); rintro e w9 ⟨rfl, hb9⟩))
  go_ret
  exact ⟨rfl, go_on (go_on (go_on (go_on hb1 hb3) hb5) hb7) hb9⟩
end Go.Proofs.Ytjkfecfldnhfiaa
