/- The law RefOnce, walked. No condition but that words are words. -/
import Derived.Test.YtjkfecfldnhfiaaRefGates
import Derived.Deep.DeepCutAuto
namespace Go.Proofs.Ytjkfecfldnhfiaa
open Go.RowKit

theorem openP_lt (w : Nat) : openP w < 16384 := by
  unfold openP; split <;> omega
theorem openG_lt (w : Nat) (h : w < 18446744073709551616) : openG w < 18446744073709551616 := by
  unfold openG; split <;> omega
theorem stateS_lt (w : Nat) : stateS w < 4 := by
  unfold stateS; split <;> omega
theorem stateG_lt (w : Nat) (h : w < 18446744073709551616) : stateG w < 18446744073709551616 := by
  unfold stateG; split <;> omega
theorem gatedS_lt (w : Nat) (h : w < 18446744073709551616) : gatedS w < 4 := by
  unfold gatedS; split <;> omega
theorem gatedT_lt (w : Nat) : gatedT w < 64 := by
  unfold gatedT; split <;> omega
theorem gatedW_lt (w : Nat) : gatedW w < 72057594037927936 := by
  unfold gatedW; split <;> omega

/-- The gate that was handed in, and all that was there. -/
def OnceAt (W w' : World) (s t : Int) (r : Nat) : Prop := Gt3 w' W.heap.size 29 s t r ∧ Below W.heap.size W w'
theorem OnceAt.on {W w1 w2 : World} {s t : Int} {r : Nat} (h : OnceAt W w1 s t r) (h2 : Below w1.heap.size w1 w2) : OnceAt W w2 s t r := ⟨h.1.keep h2, h.2.trans (h2.mono h.2.size)⟩

set_option maxHeartbeats 8000000 in
set_option maxRecDepth 100000 in
theorem once_any (p : Int) (g : Nat) (s t : Int) (r w : Nat) (hp : -9223372036854775808 ≤ p ∧ p ≤ 9223372036854775807) (hg : g < 18446744073709551616) (hs : -9223372036854775808 ≤ s ∧ s ≤ 9223372036854775807) (ht : -9223372036854775808 ≤ t ∧ t ≤ 9223372036854775807) (hr : r < 18446744073709551616) (hw : w < 18446744073709551616) (W : World) :
    Calls Try.prog 5 #[.int .i64 p, .int .u64 g, .agg #[.int .i64 s, .int .i64 t, .int .u64 r], .int .u64 w] W fun e W' => e = .returned (.bool true) ∧ Below W.heap.size W W' := by
  have HP := Lib.hid (pack_any p g hp hg)
  have HU := Lib.hid (use_any p g hp hg)
  have HS := Lib.hid (shut_any s t r hs ht hr)
  have HO := Lib.hid (open_any w hw)
  have HT := Lib.hid (state_any w hw)
  have HG := Lib.hid (gated_any w hw)
  have HL := Lib.hid rlives_any
  have H0 : Hid (OnceAt W (W.alloc (.cells #[.int .i64 s, .int .i64 t, .int .u64 r] 29)) s t r) := Lib.hid ⟨Gt3.alloc W _ s t r, gate_below W _⟩
  -- each of the six: either there is nothing to hold, or it holds
  have HX1 : Hid ((packW p g = 0) ∨ (packW p g ≠ 0 ∧ ∀ V, Calls Try.prog 8 #[.int .u64 (packW p g : Nat)] V fun e V' => e = .returned (.tuple #[.int .i64 p, .int .u64 g, .bool true]) ∧ Below V.heap.size V V')) := Lib.hid (by
    by_cases h : packW p g = 0
    · exact Or.inl h
    · refine Or.inr ⟨h, fun V => ?_⟩
      have h1 := open_any (packW p g) (packW_lt p g) V
      obtain ⟨a, b, c⟩ := open_pack h
      rw [a, b, c] at h1
      exact h1)
  have HX2 : Hid ((useW p g = 18446744073709551615) ∨ (useW p g ≠ 18446744073709551615 ∧ ∀ V, Calls Try.prog 10 #[.int .u64 (useW p g : Nat)] V fun e V' => e = .returned (.tuple #[.int .i64 p, .int .u64 g, .bool true]) ∧ Below V.heap.size V V')) := Lib.hid (by
    by_cases h : useW p g = 18446744073709551615
    · exact Or.inl h
    · refine Or.inr ⟨h, fun V => ?_⟩
      have h1 := state_any (useW p g) (useW_lt p g) V
      obtain ⟨a, b, c⟩ := state_use h
      rw [a, b, c] at h1
      exact h1)
  have HX3 : Hid ((shutW s t r = 18446744073709551615) ∨ (shutW s t r ≠ 18446744073709551615 ∧ ∀ V, Calls Try.prog 17 #[.int .u64 (shutW s t r : Nat)] V fun e V' => e = .returned (.tuple #[.agg #[.int .i64 s, .int .i64 t, .int .u64 r], .bool true]) ∧ Below V.heap.size V V')) := Lib.hid (by
    by_cases h : shutW s t r = 18446744073709551615
    · exact Or.inl h
    · refine Or.inr ⟨h, fun V => ?_⟩
      have h1 := gated_any (shutW s t r) (shutW_lt s t r) V
      unfold GateGives at h1
      obtain ⟨a, b, c, d⟩ := gated_shut h
      rw [a, b, c, d] at h1
      exact h1)
  have HX4 : Hid (openOk w = false ∨ (openOk w = true ∧ ∀ V, Calls Try.prog 12 #[.int .i64 (openP w : Nat), .int .u64 (openG w : Nat)] V fun e V' => e = .returned (.int .u64 w) ∧ Below V.heap.size V V')) := Lib.hid (by
    cases h : openOk w with
    | false => exact Or.inl rfl
    | true =>
      refine Or.inr ⟨rfl, fun V => ?_⟩
      have h1 := pack_any (openP w : Nat) (openG w) (by have := openP_lt w; omega) (openG_lt w hw) V
      rw [pack_open h] at h1
      exact h1)
  have HX5 : Hid (stateOk w = false ∨ (stateOk w = true ∧ ∀ V, Calls Try.prog 14 #[.int .i64 (stateS w : Nat), .int .u64 (stateG w : Nat)] V fun e V' => e = .returned (.int .u64 w) ∧ Below V.heap.size V V')) := Lib.hid (by
    cases h : stateOk w with
    | false => exact Or.inl rfl
    | true =>
      refine Or.inr ⟨rfl, fun V => ?_⟩
      have h1 := use_any (stateS w : Nat) (stateG w) (by have := stateS_lt w; omega) (stateG_lt w hw) V
      rw [use_state h] at h1
      exact h1)
  have HX6 : Hid (gatedOk w = false ∨ (gatedOk w = true ∧ ∀ V, Calls Try.prog 19 #[.agg #[.int .i64 (gatedS w : Nat), .int .i64 (gatedT w : Nat), .int .u64 (gatedW w : Nat)]] V fun e V' => e = .returned (.int .u64 w) ∧ Below V.heap.size V V')) := Lib.hid (by
    cases h : gatedOk w with
    | false => exact Or.inl rfl
    | true =>
      refine Or.inr ⟨rfl, fun V => ?_⟩
      have h1 := shut_any (gatedS w : Nat) (gatedT w : Nat) (gatedW w) (by have := gatedS_lt w hw; omega) (by have := gatedT_lt w; omega) (by have := gatedW_lt w; omega) V
      rw [shut_gated h] at h1
      exact h1)
  generalize packW p g = x1 at *
  generalize useW p g = x2 at *
  generalize shutW s t r = x3 at *
  generalize openP w = o1 at *
  generalize openG w = o2 at *
  generalize openOk w = o3 at *
  generalize stateS w = q1 at *
  generalize stateG w = q2 at *
  generalize stateOk w = q3 at *
  have HG2 : Hid (∀ V, Calls Try.prog 17 #[.int .u64 w] V fun e V' => e = .returned (.tuple #[.agg #[.int .i64 (gatedS w : Nat), .int .i64 (gatedT w : Nat), .int .u64 (gatedW w : Nat)], .bool (gatedOk w)]) ∧ Below V.heap.size V V') := Lib.hid (fun V => HG.out V)
  generalize gatedS w = y1 at *
  generalize gatedT w = y2 at *
  generalize gatedW w = y3 at *
  generalize gatedOk w = y4 at *
  clear hp hg hs ht hr hw HG
  go_enter Try.func5, Try.ntmps5
  go_upto_if 32 with (go_at_call 12; (with_reducible refine (HP.out _).mono ?_); rintro e w1 ⟨rfl, hb1⟩; have H1 := Lib.hid (H0.out.on hb1); clear hb1)
  go_cut [] (fun wx => Hid (OnceAt W wx s t r))
  case first =>
    rcases HX1.out with h | ⟨h, h2⟩
    · have hd : ((x1 : Int) != 0) = false := by simp [h]
      go_wp2
      go_meet
      exact H1
    · have hd : ((x1 : Int) != 0) = true := by simp; omega
      have HC := Lib.hid h2
      clear h h2
      go_wp2_with (go_at_call 8; (with_reducible refine (HC.out _).mono ?_); rintro e w2 ⟨rfl, hb2⟩; have H2 := Lib.hid (H1.out.on hb2); clear hb2)
      go_meet
      exact H2
  case rest =>
  have H3 := hcut
  clear hcut
  go_upto_if 55 with (go_at_call 14; (with_reducible refine (HU.out _).mono ?_); rintro e w1 ⟨rfl, hb1⟩; have H4 := Lib.hid (H3.out.on hb1); clear hb1)
  go_cut [] (fun wx => Hid (OnceAt W wx s t r))
  case first =>
    rcases HX2.out with h | ⟨h, h2⟩
    · have hd : ((x2 : Int) != 18446744073709551615) = false := by simp [h]
      go_wp2
      go_meet
      exact H4
    · have hd : ((x2 : Int) != 18446744073709551615) = true := by simp; omega
      have HC := Lib.hid h2
      clear h h2
      go_wp2_with (go_at_call 10; (with_reducible refine (HC.out _).mono ?_); rintro e w2 ⟨rfl, hb2⟩; have H2 := Lib.hid (H4.out.on hb2); clear hb2)
      go_meet
      exact H2
  case rest =>
  have H5 := hcut
  clear hcut
  have c0 := H5.out.1.c0
  have c1 := H5.out.1.c1
  have c2 := H5.out.1.c2
  go_upto_if 77 with (go_at_call 19; (with_reducible refine (HS.out _).mono ?_); rintro e w1 ⟨rfl, hb1⟩; have H6 := Lib.hid (H5.out.on hb1); clear hb1 c0 c1 c2)
  go_cut [] (fun wx => Hid (OnceAt W wx s t r))
  case first =>
    rcases HX3.out with h | ⟨h, h2⟩
    · have hd : ((x3 : Int) != 18446744073709551615) = false := by simp [h]
      go_wp2
      go_meet
      exact H6
    · have hd : ((x3 : Int) != 18446744073709551615) = true := by simp; omega
      have HC := Lib.hid h2
      clear h h2
      go_wp2_with fail
      refine (HC.out _).mono ?_
      rintro e w2 ⟨rfl, hb2⟩
      have h7 := (H6.out.on hb2).on (gate_below w2 (.cells #[.int .i64 s, .int .i64 t, .int .u64 (r : Nat)] 30))
      have c0 := h7.1.c0
      have c1 := h7.1.c1
      have c2 := h7.1.c2
      have H7 := Lib.hid h7
      clear hb2 h7
      go_wp2
      go_meet
      exact H7
  case rest =>
  have H7 := hcut
  clear hcut
  go_upto_region 17 with (go_at_call 8; (with_reducible refine (HO.out _).mono ?_); rintro e w1 ⟨rfl, hb1⟩; have H8 := Lib.hid (H7.out.on hb1); clear hb1)
  go_cut [103] (fun c wx => c = .bool false ∧ Hid (OnceAt W wx s t r))
  case first =>
    rcases HX4.out with rfl | ⟨rfl, h2⟩
    · go_wp2
      go_meet
      exact ⟨rfl, H8⟩
    · have HC := Lib.hid h2
      clear h2
      go_wp2_with (go_at_call 12; (with_reducible refine (HC.out _).mono ?_); rintro e w2 ⟨rfl, hb2⟩; have H2 := Lib.hid (H8.out.on hb2); clear hb2)
      go_meet
      exact ⟨rfl, H2⟩
  case rest =>
  obtain ⟨rfl, H9⟩ := hcut
  go_upto_region 20 with (go_at_call 10; (with_reducible refine (HT.out _).mono ?_); rintro e w1 ⟨rfl, hb1⟩; have H10 := Lib.hid (H9.out.on hb1); clear hb1)
  go_cut [117] (fun c wx => c = .bool false ∧ Hid (OnceAt W wx s t r))
  case first =>
    rcases HX5.out with rfl | ⟨rfl, h2⟩
    · go_wp2
      go_meet
      exact ⟨rfl, H10⟩
    · have HC := Lib.hid h2
      clear h2
      go_wp2_with (go_at_call 14; (with_reducible refine (HC.out _).mono ?_); rintro e w2 ⟨rfl, hb2⟩; have H2 := Lib.hid (H10.out.on hb2); clear hb2)
      go_meet
      exact ⟨rfl, H2⟩
  case rest =>
  obtain ⟨rfl, H11⟩ := hcut
  go_upto_region 23 with (go_at_call 17; (with_reducible refine (HG2.out _).mono ?_); rintro e w1 ⟨rfl, hb1⟩; have H12 := Lib.hid (H11.out.on hb1); clear hb1)
  have h13 := H12.out.on (gate_below w1 (.cells #[.int .i64 (y1 : Nat), .int .i64 (y2 : Nat), .int .u64 (y3 : Nat)] 30))
  have k := Gt3.alloc w1 30 y1 y2 y3
  have c0 := k.c0
  have c1 := k.c1
  have c2 := k.c2
  have H13 := Lib.hid h13
  clear h13 k
  rcases HX6.out with rfl | ⟨rfl, h2⟩
  · go_wp2_with (go_at_call 16; (with_reducible refine (HL.out _).mono ?_); rintro e w3 ⟨rfl, hb3⟩)
    go_ret
    exact ⟨rfl, (H13.out.on hb3).2⟩
  · have HC := Lib.hid h2
    clear h2
    go_wp2_with (first
      | (go_at_call 19; (with_reducible refine (HC.out _).mono ?_); rintro e w2 ⟨rfl, hb2⟩; have H14 := Lib.hid (H13.out.on hb2); clear hb2 c0 c1 c2)
      | (go_at_call 16; (with_reducible refine (HL.out _).mono ?_); rintro e w3 ⟨rfl, hb3⟩))
    go_ret
    exact ⟨rfl, (H14.out.on hb3).2⟩
end Go.Proofs.Ytjkfecfldnhfiaa
