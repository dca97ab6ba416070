/- node.Empty; bowerlaw10.lives: the chapter's examples. No condition. The chapter's example (bowerlaw21.lives). No condition. -/
import Derived.Test.YtdbklklmpnlinaaNodeCheck3
import Derived.Test.YtdbklklmpnlinaaPga
import Derived.Test.YtdbklklmpnlinaaPgf
namespace Go.Proofs.Ytdbklklmpnlinaa
open Go.RowKit

theorem empty_any (w : World) : Calls Try.prog 27 #[] w fun e w' => e = .returned (.agg #[.int .i64 0, .string ⟨#[]⟩, .string ⟨#[]⟩, .bool true, .int .i64 (-1), .slice none 0 0, .slice none 0 0, .slice none 0 0]) ∧ Below w.heap.size w w' := by
  go_enter Try.func27, Try.ntmps27
  go_wp2
  refine bodyPost_ret (v := .agg #[.int .i64 0, .string ⟨#[]⟩, .string ⟨#[]⟩, .bool true, .int .i64 (-1), .slice none 0 0, .slice none 0 0, .slice none 0 0]) (by simp [results, Try.results27, go_sem, *]) rfl ⟨rfl, ?_⟩
  exact (one_alloc w _).2

theorem empty_nd (w : World) : NdAt w none none none 0 0 0 0 0 0 [] [] [] := ⟨Rd.nil w, Rd.nil w, Rd.nil w⟩
theorem empty_sound : SoundP 0 (-1) ⟨#[]⟩ ⟨#[]⟩ true 0 0 0 [] [] 4 := by
  refine ⟨by omega, ⟨by decide, fun _ => ⟨rfl, rfl⟩, fun h => (by cases h)⟩, ⟨by omega, fun i hi => (by simp at hi), fun i hi => absurd hi (Nat.not_lt_zero _)⟩, fun _ => ⟨rfl, rfl, fun i hi => absurd hi (Nat.not_lt_zero _)⟩, fun h => absurd rfl h⟩

end Go.Proofs.Ytdbklklmpnlinaa

namespace Go.Proofs.Ytdbklklmpnlinaa
open Go.RowKit Go.Maps

def eN21 : Nod := ⟨0, -1, ⟨#[]⟩, ⟨#[]⟩, true, [], [], []⟩
def eK21 : Kn := ⟨0, 1, 5, eN21⟩
def eX1 : Ch := ⟨0, -1, 1, 5, false, false, eN21⟩
def eX2 : Ch := ⟨0, 0, 0, 6, false, true, eN21⟩
theorem eK21_row {w W : World} {g : Nat} (h : BX W g 43 #[.int .i64 0, .int .u64 1, .int .u64 5, .int .i64 0, .string ⟨#[]⟩, .string ⟨#[]⟩, .bool true, .int .i64 (-1), .slice none 0 0, .slice none 0 0, .slice none 0 0]) : KsAt (PV w) W (.slice (some ⟨g, 0, none⟩) 1 1) [eK21] := by
  refine ⟨some ⟨g, 0, none⟩, 1, rfl, Nat.le_refl _, by omega, fun _ => ⟨g, 0, rfl, fun j hj => ?_⟩⟩
  have : j = 0 := by simp at hj; exact hj
  subst this
  refine ⟨_, ⟨none, 0, 0, none, 0, 0, none, 0, 0, rfl, ⟨none, none, none, 0, 0, 0, rfl, ⟨Rd.nil _, Rd.nil _, Rd.nil _⟩⟩⟩, fun i hi => ?_⟩
  show W.cell? ⟨g, 0 + 0 * 11 + i, none⟩ = _
  rw [show 0 + 0 * 11 + i = i by omega]
  rcases i with _ | _ | _ | _ | _ | _ | _ | _ | _ | _ | _ | i
  all_goals first | exact h.cell _ rfl | omega
theorem eK21_ok : ∀ kn ∈ [eK21], NodOk kn.n := by
  intro kn h
  rw [List.mem_singleton] at h
  subst h
  refine ⟨by decide, by decide, (fun x hx => by cases hx), by decide, by decide, by decide, by decide, (fun j hj => absurd hj (Nat.not_lt_zero _))⟩
theorem eK21_all : learnAll [eK21] = [eK21] := rfl
theorem live1 {r : Bool} {cs' : List Ch} {k' m' : Int} (h : ChIs [eK21] [] [] 0 0 ⟨0, 0, 0, 0, false, false, eN21⟩ r cs' k' m') : r = true ∧ cs' = [eX1] ∧ k' = 0 ∧ m' = 0 := by
  rcases h with ⟨h | h, _⟩ | ⟨_, _, x', h, rfl⟩
  · cases h
  · simp at h
  · rcases h with ⟨j, hj, _⟩ | ⟨_, i, hi, _⟩ | ⟨_, _, ⟨y, hy, rfl, rfl, rfl, rfl⟩ | ⟨hy, _⟩⟩
    · simp at hj
    · simp at hi
    · have e : y = eK21 := by
        have h2 : kfind [eK21] 0 = some eK21 := rfl
        have h3 : some eK21 = some y := h2.symm.trans hy
        injection h3 with h3
        exact h3.symm
      subst e
      exact ⟨rfl, rfl, rfl, rfl⟩
    · exact absurd (show kfind [eK21] 0 = none from hy) (by decide)
theorem live2 {r : Bool} {cs' : List Ch} {k' m' : Int} (h : ChIs [eK21] [] [eX1] 0 0 ⟨0, 0, 0, 0, false, true, eN21⟩ r cs' k' m') : r = true ∧ cs' = [eX1, eX2] ∧ k' = 0 ∧ m' = 0 := by
  have hl : lastC [eX1] 0 1 = 0 := rfl
  rcases h with ⟨h | h, _⟩ | ⟨_, _, x', h, rfl⟩
  · exact absurd h (by decide)
  · simp at h
  · rcases h with ⟨j, hj, h1, rfl, rfl, rfl, rfl⟩ | ⟨h1, _⟩ | ⟨h1, _⟩
    · have e : j = 0 := by simp at hj; exact hj
      subst e
      exact ⟨rfl, rfl, rfl, rfl⟩
    · exact absurd (hl.symm.trans h1) (by decide)
    · exact absurd (hl.symm.trans h1) (by decide)
set_option maxHeartbeats 4000000 in
set_option maxRecDepth 100000 in
theorem lives21_any (w : World) : Calls Try.prog 12 #[] w fun e w' => e = .returned (.bool true) ∧ Below w.heap.size w w' := by
  have HEM := Lib.hid (fun W => empty_any W)
  go_enter Try.func12, Try.ntmps12
  go_wp2_with fail
  refine (HEM.out _).mono ?_
  rintro e w1 ⟨rfl, hb1⟩
  have n1 := BX.new w1 43 #[.int .i64 0, .int .u64 1, .int .u64 5, .int .i64 0, .string ⟨#[]⟩, .string ⟨#[]⟩, .bool true, .int .i64 (-1), .slice none 0 0, .slice none 0 0, .slice none 0 0]
  have hx1 := boxed_below w1 (.cells #[.int .i64 0, .int .u64 1, .int .u64 5, .int .i64 0, .string ⟨#[]⟩, .string ⟨#[]⟩, .bool true, .int .i64 (-1), .slice none 0 0, .slice none 0 0, .slice none 0 0] 43)
  obtain ⟨W1, hW1⟩ : ∃ W, W = w1.alloc (.cells #[.int .i64 0, .int .u64 1, .int .u64 5, .int .i64 0, .string ⟨#[]⟩, .string ⟨#[]⟩, .bool true, .int .i64 (-1), .slice none 0 0, .slice none 0 0, .slice none 0 0] 43) := ⟨_, rfl⟩
  rw [← hW1] at n1 hx1
  have HX1 := Lib.hid (hb1.trans (hx1.mono hb1.size))
  have HV1 := Lib.hid (view_says W1 _ 1 1 [eK21] W1 (Below.refl _ _) (eK21_row n1) eK21_ok (by omega))
  rw [eK21_all] at HV1
  have HW1 := Lib.hid hW1
  clear hb1 n1 hx1 hW1
  go_wp2_with fail
  rw [← HW1.out]
  clear HW1
  refine HV1.out.mono ?_
  rintro e w2 ⟨A, b, N, rfl, hf2, hb2⟩
  have HF2 := Lib.hid hf2
  have HX2 := Lib.hid (HX1.out.trans (hb2.mono HX1.out.size))
  have HLE := Lib.hid HX1.out.size
  clear hf2 hb2 HV1 HX1
  go_wp2_with fail
  refine (begin_any (some ⟨A, 0, none⟩) w2).mono ?_
  rintro e w3 ⟨rfl, rfl⟩
  obtain ⟨E, hE⟩ : ∃ g, g = w2.heap.size := ⟨_, rfl⟩
  have he := begin_es HF2.out
  have hb3 := boxed_below w2 (.cells #[.pointer (some ⟨A, 0, none⟩), .slice none 0 0, .slice none 0 0] 71)
  rw [← hE] at he ⊢
  obtain ⟨W3, hW3⟩ : ∃ W, W = w2.alloc (.cells #[.pointer (some ⟨A, 0, none⟩), .slice none 0 0, .slice none 0 0] 71) := ⟨_, rfl⟩
  rw [← hW3] at he hb3 ⊢
  have HE3 := Lib.hid he
  have HX3 := Lib.hid (HX2.out.trans (hb3.mono HX2.out.size))
  clear he hb3 hE hW3 HF2 HX2
  go_wp2_with fail
  refine (HEM.out _).mono ?_
  rintro e w4 ⟨rfl, hb4⟩
  have HE4 := Lib.hid (HE3.out.keep hb4)
  have HX4 := Lib.hid (HX3.out.trans (hb4.mono HX3.out.size))
  have HS4 := Lib.hid (set_any 0 eN21 none 0 none 0 none 0 false w4 HE4.out ⟨Rd.nil _, Rd.nil _, Rd.nil _⟩ ⟨by decide, by decide, by decide⟩ (by decide))
  unfold eN21 at HS4
  clear hb4 HE3 HX3
  go_wp2_with fail
  refine HS4.out.mono ?_
  rintro e w5 ⟨r, ao5, nc5, cc5, k5, m5, cs5, rfl, he5, ht5, his5⟩
  obtain ⟨rfl, rfl, rfl, rfl⟩ := live1 his5
  have HE5 := Lib.hid he5
  have HX5 := Lib.hid (HX4.out.trans (ht5.below (fun g hg => Nat.le_trans HLE.out (HE4.out.base g hg)) HX4.out.size))
  clear he5 ht5 his5 HE4 HX4 HS4
  go_wp2_with fail
  refine (HEM.out _).mono ?_
  rintro e w6 ⟨rfl, hb6⟩
  have HE6 := Lib.hid (HE5.out.keep hb6)
  have HX6 := Lib.hid (HX5.out.trans (hb6.mono HX5.out.size))
  have HS6 := Lib.hid (set_any 0 eN21 none 0 none 0 none 0 true w6 HE6.out ⟨Rd.nil _, Rd.nil _, Rd.nil _⟩ ⟨by decide, by decide, by decide⟩ (by decide))
  unfold eN21 at HS6
  clear hb6 HE5 HX5
  go_wp2_with fail
  refine HS6.out.mono ?_
  rintro e w7 ⟨r, ao7, nc7, cc7, k7, m7, cs7, rfl, he7, ht7, his7⟩
  obtain ⟨rfl, rfl, rfl, rfl⟩ := live2 his7
  have HE7 := Lib.hid he7
  have HX7 := Lib.hid (HX6.out.trans (ht7.below (fun g hg => Nat.le_trans HLE.out (HE6.out.base g hg)) HX6.out.size))
  have HC7 := Lib.hid (changes_any w7 he7 (by decide))
  clear he7 ht7 his7 HE6 HX6 HS6
  go_wp2_with fail
  refine HC7.out.mono ?_
  rintro e w8 ⟨ao, n, c, rfl, hcs, _, _, hb8⟩
  have HX8 := Lib.hid (HX7.out.trans (hb8.mono HX7.out.size))
  obtain rfl : n = 2 := hcs.len.1
  obtain ⟨g, o, ak, nk, ck, av, nv, cv, ac, nn, cn, rfl, _, hc0⟩ := hcs.get (j := 0) (by omega)
  obtain ⟨g', o', ak', nk', ck', av', nv', cv', ac', nn', cn', e2, _, hc1⟩ := hcs.get (j := 1) (by omega)
  injection e2 with e2
  injection e2 with e21 e22 _
  subst e21 e22
  have hl2 := hcs.len.2
  have p1 : w8.cell? ⟨g, o + 1, none⟩ = some (.int .i64 (-1)) := by have := hc0 w8 (Below.refl _ _) 1 (by decide); rw [Nat.zero_mul, Nat.add_zero] at this; exact this
  have p3 : w8.cell? ⟨g, o + 3, none⟩ = some (.int .u64 5) := by have := hc0 w8 (Below.refl _ _) 3 (by decide); rw [Nat.zero_mul, Nat.add_zero] at this; exact this
  have s1 : w8.cell? ⟨g, o + 14 + 1, none⟩ = some (.int .i64 0) := by have := hc1 w8 (Below.refl _ _) 1 (by decide); rw [Nat.one_mul] at this; exact this
  have s3 : w8.cell? ⟨g, o + 14 + 3, none⟩ = some (.int .u64 6) := by have := hc1 w8 (Below.refl _ _) 3 (by decide); rw [Nat.one_mul] at this; exact this
  have s5 : w8.cell? ⟨g, o + 14 + 5, none⟩ = some (.bool true) := by have := hc1 w8 (Below.refl _ _) 5 (by decide); rw [Nat.one_mul] at this; exact this
  clear hcs hb8 hc0 hc1 HE7 HX7 HC7
  go_wp2
  go_ret
  exact ⟨rfl, HX8.out⟩
end Go.Proofs.Ytdbklklmpnlinaa
