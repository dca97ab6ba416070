/- node.Empty; bowerlaw10.lives: the chapter's examples. No condition. -/
import Derived.Test.YtlbafmmeglafhaaNodeCheck3
namespace Go.Proofs.Ytlbafmmeglafhaa
open Go.RowKit

theorem empty_any (w : World) : Calls Try.prog 51 #[] w fun e w' => e = .returned (.agg #[.int .i64 0, .string ⟨#[]⟩, .string ⟨#[]⟩, .bool true, .int .i64 (-1), .slice none 0 0, .slice none 0 0, .slice none 0 0]) ∧ Below w.heap.size w w' := by
  go_enter Try.func51, Try.ntmps51
  go_wp2
  refine bodyPost_ret (v := .agg #[.int .i64 0, .string ⟨#[]⟩, .string ⟨#[]⟩, .bool true, .int .i64 (-1), .slice none 0 0, .slice none 0 0, .slice none 0 0]) (by simp [results, Try.results51, go_sem, *]) rfl ⟨rfl, ?_⟩
  exact (one_alloc w _).2

theorem empty_nd (w : World) : NdAt w none none none 0 0 0 0 0 0 [] [] [] := ⟨Rd.nil w, Rd.nil w, Rd.nil w⟩
theorem empty_sound : SoundP 0 (-1) ⟨#[]⟩ ⟨#[]⟩ true 0 0 0 [] [] 4 := by
  refine ⟨by omega, ⟨by decide, fun _ => ⟨rfl, rfl⟩, fun h => (by cases h)⟩, ⟨by omega, fun i hi => (by simp at hi), fun i hi => absurd hi (Nat.not_lt_zero _)⟩, fun _ => ⟨rfl, rfl, fun i hi => absurd hi (Nat.not_lt_zero _)⟩, fun h => absurd rfl h⟩

set_option maxHeartbeats 4000000 in
theorem lives10_any (w : World) : Calls Try.prog 26 #[] w fun e w' => e = .returned (.bool true) ∧ Below w.heap.size w w' := by
  have HE := Lib.hid (empty_any w)
  have HL1 := Lib.hid (fun W => least_any 0 4 W (by omega))
  have HL2 := Lib.hid (fun W => least_any 1 4 W (by omega))
  have HL3 := Lib.hid (fun W => least_any 0 64 W (by omega))
  rw [show leastN 0 4 = 1 by decide] at HL1
  rw [show leastN 1 4 = 2 by decide] at HL2
  rw [show leastN 0 64 = 16 by decide] at HL3
  have HCK : Hid (∀ W, Calls Try.prog 27 #[.agg #[.int .i64 0, .string ⟨#[]⟩, .string ⟨#[]⟩, .bool true, .int .i64 (-1), .slice none 0 0, .slice none 0 0, .slice none 0 0], .int .i64 4] W fun e w' => e = .returned (.int .i64 0) ∧ Below W.heap.size W w') := Lib.hid (fun W => by
    refine (check_fan 0 (-1) ⟨#[]⟩ ⟨#[]⟩ true none none none 0 0 0 0 0 0 [] [] [] 4 (by omega) W (empty_nd W) (by decide) (by decide) (by simp) (by omega)).mono ?_
    rintro e w' ⟨⟨rfl, _⟩ | ⟨_, h⟩, hb⟩
    · exact ⟨rfl, hb⟩
    · exact absurd empty_sound h)
  have HCV := Lib.hid (fun W => covers_any 0 (-1) ⟨#[]⟩ ⟨#[]⟩ true none none none 0 0 0 0 0 0 ⟨#[97]⟩ W (by decide) (by decide) (by decide))
  rw [show insideB (ByteArray.mk #[]).data.toList (ByteArray.mk #[]).data.toList true (ByteArray.mk #[97]).data.toList = true by decide +kernel] at HCV
  go_enter Try.func26, Try.ntmps26
  go_wp2_with fail
  refine HE.out.mono ?_
  rintro e w1 ⟨rfl, hb1⟩
  have HB1 := Lib.hid (hb1.alloc hb1.size (.cells #[.int .i64 0, .string ⟨#[]⟩, .string ⟨#[]⟩, .bool true, .int .i64 (-1), .slice none 0 0, .slice none 0 0, .slice none 0 0] 62))
  have HN1 := Lib.hid (NB.new w1 #[.int .i64 0, .string ⟨#[]⟩, .string ⟨#[]⟩, .bool true, .int .i64 (-1), .slice none 0 0, .slice none 0 0, .slice none 0 0])
  clear hb1
  go_wp2_with fail
  refine (HL1.out _).mono ?_
  rintro e w2 ⟨rfl, rfl⟩
  go_wp2_with fail
  refine (HL2.out _).mono ?_
  rintro e w2 ⟨rfl, rfl⟩
  go_wp2_with fail
  refine (HL3.out _).mono ?_
  rintro e w2 ⟨rfl, rfl⟩
  go_wp2_with fail
  refine (HCK.out _).mono ?_
  rintro e w2 ⟨rfl, hb2⟩
  have HB2 := Lib.hid (HB1.out.trans (hb2.mono HB1.out.size))
  obtain ⟨q0, q1, q2, q3, q4, q5, q6, q7⟩ := (HN1.out.below hb2).cells
  clear hb2
  go_wp2_with fail
  refine (HCV.out _).mono ?_
  rintro e w3 ⟨rfl, hb3⟩
  have HB3 := Lib.hid (HB2.out.trans (hb3.mono HB2.out.size))
  clear hb3
  go_wp2
  go_ret
  exact ⟨rfl, HB3.out⟩
end Go.Proofs.Ytlbafmmeglafhaa
