/- node.Empty; bowerlaw10.lives: the chapter's examples. No condition. -/
import Derived.Test.YtdbklklmpnlinaaNodeCheck3
namespace Go.Proofs.Ytdbklklmpnlinaa
open Go.RowKit

theorem empty_any (w : World) : Calls Try.prog 27 #[] w fun e w' => e = .returned (.agg #[.int .i64 0, .string ⟨#[]⟩, .string ⟨#[]⟩, .bool true, .int .i64 (-1), .slice none 0 0, .slice none 0 0, .slice none 0 0]) ∧ Below w.heap.size w w' := by
  go_enter Try.func27, Try.ntmps27
  go_wp2
  refine bodyPost_ret (v := .agg #[.int .i64 0, .string ⟨#[]⟩, .string ⟨#[]⟩, .bool true, .int .i64 (-1), .slice none 0 0, .slice none 0 0, .slice none 0 0]) (by simp [results, Try.results27, go_sem, *]) rfl ⟨rfl, ?_⟩
  exact (one_alloc w _).2

theorem empty_nd (w : World) : NdAt w none none none 0 0 0 0 0 0 [] [] [] := ⟨Rd.nil w, Rd.nil w, Rd.nil w⟩
theorem empty_sound : SoundP 0 (-1) ⟨#[]⟩ ⟨#[]⟩ true 0 0 0 [] [] 4 := by
  refine ⟨by omega, ⟨by decide, fun _ => ⟨rfl, rfl⟩, fun h => (by cases h)⟩, ⟨by omega, fun i hi => (by simp at hi), fun i hi => absurd hi (Nat.not_lt_zero _)⟩, fun _ => ⟨rfl, rfl, fun i hi => absurd hi (Nat.not_lt_zero _)⟩, fun h => absurd rfl h⟩

end Go.Proofs.Ytdbklklmpnlinaa
