/- The document's Over; what is over two others, as a node. Condition: sizes that fit. -/
import Derived.Test.YtnlghdkgejimpaaInnerOver0
namespace Go.Proofs.Ytnlghdkgejimpaa
open Go.RowKit

def Nod.over (level left : Int) (low : ByteArray) (right : Int) : Nod := ⟨level, -1, ⟨#[]⟩, ⟨#[]⟩, true, [⟨#[]⟩, low], [], [left, right]⟩
theorem lss_nil_iff (low : ByteArray) : lss (ByteArray.mk #[]).data.toList low.data.toList = decide (low ≠ ⟨#[]⟩) := by
  by_cases h : low = ⟨#[]⟩
  · subst h; rfl
  · rw [decide_eq_true h]
    cases hl : low.data.toList with
    | nil => exact absurd (text_of hl) h
    | cons x xs => rfl
theorem one_post {level left right : Int} {low : ByteArray} (h : low ≠ ⟨#[]⟩) : (Nod.one level left).post low right = Nod.over level left low right := by
  have hp : placeF [(⟨#[]⟩ : ByteArray)] low = 1 := by
    unfold placeF
    rw [List.findIdx_cons, lss_nil_iff, decide_eq_true h]; rfl
  unfold Nod.post Nod.one Nod.over
  simp only
  rw [hp]
  rfl
theorem over_rise {level left right : Int} {low : ByteArray} (h : (Nod.over level left low right).Sound 64) : low ≠ ⟨#[]⟩ := by
  intro e
  subst e
  have := h.keys.rise 0 (by show 0 + 1 < 2; omega)
  cases this
theorem one_bad {level left right : Int} : ¬ ((Nod.one level left).post ⟨#[]⟩ right).Sound 64 := by
  intro h
  have := h.keys.rise 0 (by show 0 + 1 < (insF [(⟨#[]⟩ : ByteArray)] _ _).length; rw [insF_len (by exact List.findIdx_le_length)]; simp)
  have e : insF [(⟨#[]⟩ : ByteArray)] (placeF [(⟨#[]⟩ : ByteArray)] ⟨#[]⟩) ⟨#[]⟩ = [⟨#[]⟩, ⟨#[]⟩] := by kernel_rfl
  have h2 : Rises [(⟨#[]⟩ : ByteArray), ⟨#[]⟩] := by
    have h3 := h.keys.rise
    rw [show ((Nod.one level left).post ⟨#[]⟩ right).ks = insF [(⟨#[]⟩ : ByteArray)] (placeF [(⟨#[]⟩ : ByteArray)] ⟨#[]⟩) ⟨#[]⟩ from rfl, e] at h3
    exact h3
  have := h2 0 (by show 0 + 1 < 2; omega)
  cases this
theorem over_iff {level left right : Int} {low : ByteArray} : (Nod.one level left).PostP low right 64 ↔ 0 < level ∧ (Nod.over level left low right).Sound 64 := by
  constructor
  · rintro ⟨h1, _, h3⟩
    by_cases h : low = ⟨#[]⟩
    · subst h; exact absurd h3 one_bad
    · rw [one_post h] at h3
      exact ⟨h1.1, h3⟩
  · rintro ⟨h1, h2⟩
    have h := over_rise h2
    have hl : level ≠ 0 := by omega
    have he := h2.entries.inner hl
    refine ⟨⟨h1, ?_⟩, by omega, by rw [one_post h]; exact h2⟩
    refine ⟨h2.level, h2.range, ⟨by show ((1 : Nat) : Int) ≤ 64; omega, (fun i hi => absurd hi (by show ¬ i + 1 < 1; omega)), fun i hi => ?_⟩, ⟨fun g => absurd g hl, fun _ => ⟨rfl, by show (1 : Nat) ≠ 0; omega, rfl, rfl, fun i h3 h4 => absurd h4 (by show ¬ i < 1; omega), fun i hi => ?_⟩⟩⟩
    · have h0 : i = 0 := by have : i < 1 := hi; omega
      subst h0
      exact h2.keys.inn 0 (by show 0 < 2; omega)
    · have h0 : i = 0 := by have : i < 1 := hi; omega
      subst h0
      exact ⟨(he.2.2.2.2.2 0 (by show 0 < 2; omega)).1, fun j hj => by omega⟩
theorem over_or {level left right : Int} {low : ByteArray} {b : Bool} (hb : b = true ↔ (Nod.one level left).PostP low right 64) : Nod.or b ((Nod.one level left).post low right) = Nod.or b (Nod.over level left low right) := by
  cases b with
  | false => rfl
  | true => rw [one_post (over_rise (over_iff.1 (hb.1 rfl)).2)]

set_option maxHeartbeats 4000000 in
set_option maxRecDepth 100000 in
theorem rover_of (level left right : Int) (low : ByteArray) (b : Bool) (w : World) (hk : low.size ≤ 140737488355328) (hb : b = true ↔ 0 < level ∧ (Nod.over level left low right).Sound 64) :
    Calls Try.prog 41 #[.int .i64 level, .int .i64 left, .string low, .int .i64 right] w fun e w' => GaveN w w' e b (Nod.or b (Nod.over level left low right)) := by
  obtain ⟨w1, hw1⟩ : ∃ w1, w1 = w.alloc (.cells #[.int .i64 0, .string ⟨#[]⟩, .string ⟨#[]⟩, .bool false, .int .i64 0, .slice none 0 0, .slice none 0 0, .slice none 0 0] 26) := ⟨_, rfl⟩
  have HB : Hid (Below w.heap.size w w1) := Lib.hid (by rw [hw1]; exact boxed_below w _)
  have HR : Hid (NB w1 w.heap.size #[.int .i64 0, .string ⟨#[]⟩, .string ⟨#[]⟩, .bool false, .int .i64 0, .slice none 0 0, .slice none 0 0, .slice none 0 0]) := Lib.hid (by rw [hw1]; exact NB.new w _)
  have HW1 := Lib.hid hw1
  have HIN := Lib.hid (fun ak ac ck cc W (hN : NdAt W ak none ac 2 ck 0 0 2 cc [⟨#[]⟩, low] [] [left, right]) => rinner_of level (-1) ⟨#[]⟩ ⟨#[]⟩ true ak none ac 2 ck 0 0 2 cc [⟨#[]⟩, low] [] [left, right] b W hN ⟨by decide, by decide, fun x hx => by
    simp at hx
    rcases hx with rfl | rfl
    · decide
    · exact hk, by omega⟩ hb)
  have HBB := Lib.hid hb
  clear hw1 hb hk
  go_enter Try.func41, Try.ntmps41
  go_upto_region 1 with fail
  rw [← HW1.out]
  go_upto_region 2 with fail
  refine @nameW (fun W => Code.wp _ _ _ _ W) _ ?_
  intro W6 hW6
  have c1 := boxed_below w1 (.cells #[.string ⟨#[]⟩, .string low] 9)
  have c2 := boxed_below (w1.alloc (.cells #[.string ⟨#[]⟩, .string low] 9)) (.cells #[.int .i64 left, .int .i64 right] 3)
  have c3 := boxed_below ((w1.alloc (.cells #[.string ⟨#[]⟩, .string low] 9)).alloc (.cells #[.int .i64 left, .int .i64 right] 3)) (.cells #[.int .i64 level, .string ⟨#[]⟩, .string ⟨#[]⟩, .bool true, .int .i64 (-1), .slice (some ⟨w1.heap.size, 0, none⟩) 2 2, .slice none 0 0, .slice (some ⟨w1.heap.size + 1, 0, none⟩) 2 2] 26)
  have zB : (w1.alloc (.cells #[.string ⟨#[]⟩, .string low] 9)).heap.size = w1.heap.size + 1 := by rw [World.size_alloc]
  have zC : ((w1.alloc (.cells #[.string ⟨#[]⟩, .string low] 9)).alloc (.cells #[.int .i64 left, .int .i64 right] 3)).heap.size = w1.heap.size + 1 + 1 := by rw [World.size_alloc, zB]
  have r1 : W6.heap[w1.heap.size]? = some (.cells #[.string ⟨#[]⟩, .string low] 9 (0, 0)) := by
    rw [hW6]
    exact (c3.block w1.heap.size (by rw [zC]; omega)).trans ((c2.block w1.heap.size (by rw [zB]; omega)).trans (heap_alloc_new w1 _))
  have r2 : W6.heap[w1.heap.size + 1]? = some (.cells #[.int .i64 left, .int .i64 right] 3 (0, 0)) := by
    have h := heap_alloc_new (w1.alloc (.cells #[.string ⟨#[]⟩, .string low] 9)) (.cells #[.int .i64 left, .int .i64 right] 3)
    rw [zB] at h
    rw [hW6]
    exact (c3.block (w1.heap.size + 1) (by rw [zC]; omega)).trans h
  have HNX : Hid (NB W6 (w1.heap.size + 1 + 1) #[.int .i64 level, .string ⟨#[]⟩, .string ⟨#[]⟩, .bool true, .int .i64 (-1), .slice (some ⟨w1.heap.size, 0, none⟩) 2 2, .slice none 0 0, .slice (some ⟨w1.heap.size + 1, 0, none⟩) 2 2]) := Lib.hid (by
    have h := heap_alloc_new ((w1.alloc (.cells #[.string ⟨#[]⟩, .string low] 9)).alloc (.cells #[.int .i64 left, .int .i64 right] 3)) (.cells #[.int .i64 level, .string ⟨#[]⟩, .string ⟨#[]⟩, .bool true, .int .i64 (-1), .slice (some ⟨w1.heap.size, 0, none⟩) 2 2, .slice none 0 0, .slice (some ⟨w1.heap.size + 1, 0, none⟩) 2 2] 26)
    rw [zC] at h
    rw [hW6]
    exact h)
  have HB6 : Hid (Below w1.heap.size w1 W6) := Lib.hid (by rw [hW6]; exact (c1.trans (c2.mono c1.size)).trans (c3.mono (Nat.le_trans c1.size c2.size)))
  have HND : Hid (NdAt W6 (some ⟨w1.heap.size, 0, none⟩) none (some ⟨w1.heap.size + 1, 0, none⟩) 2 2 0 0 2 2 [⟨#[]⟩, low] [] [left, right]) := Lib.hid ⟨Whole.rd (xs := [.string ⟨#[]⟩, .string low]) r1 (by simp), Rd.nil _, Whole.rd (xs := [.int .i64 left, .int .i64 right]) r2 (by simp)⟩
  have hz1 : w.heap.size < w1.heap.size := lt_of_block HR.out
  clear hW6 c1 c2 c3 zB zC r1 r2
  obtain ⟨q0, q1, q2, q3, q4, q5, q6, q7⟩ := HNX.out.cells
  by_cases hl : level < 1
  · have HF : Hid (b = false) := Lib.hid (bool_no HBB.out (fun h => by have := h.1; omega))
    have HR8 := Lib.hid (HR.out.below HB6.out)
    have HBW := Lib.hid (HB.out.trans (HB6.out.mono HB.out.size))
    obtain ⟨t0, t1, t2, t3, t4, t5, t6, t7⟩ := HR8.out.cells
    have f0 := HR8.out.frozen 0
    have f1 := HR8.out.frozen 1
    have f2 := HR8.out.frozen 2
    have f3 := HR8.out.frozen 3
    have f4 := HR8.out.frozen 4
    have f5 := HR8.out.frozen 5
    have f6 := HR8.out.frozen 6
    have f7 := HR8.out.frozen 7
    go_wp2
    refine bodyPost_ret (v := .tuple #[.agg #[.int .i64 0, .string ⟨#[]⟩, .string ⟨#[]⟩, .bool false, .int .i64 0, .slice none 0 0, .slice none 0 0, .slice none 0 0], .bool false]) (by simp [results, Try.results41, go_sem, *]) rfl ?_
    rw [HF.out, Nod.ior_no]
    exact igave_none (wr5_below w.heap.size w.heap.size (Nat.le_refl _) [(0, _), (1, _), (2, _), (3, _), (4, _), (5, _), (6, _), (7, _)] w W6 HBW.out)
  · go_wp2_with fail
    refine (HIN.out _ _ 2 2 W6 HND.out).mono ?_
    rintro e w8 ⟨rfl, hb8⟩
    have HB8 := Lib.hid (HB6.out.trans (hb8.mono HB6.out.size))
    have HX8 := Lib.hid (HNX.out.below hb8)
    have HD8 := Lib.hid (HND.out.keep hb8)
    have HR8 := Lib.hid (HR.out.below HB8.out)
    have HBW := Lib.hid (HB.out.trans (HB8.out.mono HB.out.size))
    clear hb8 q0 q1 q2 q3 q4 q5 q6 q7
    obtain ⟨q0, q1, q2, q3, q4, q5, q6, q7⟩ := HX8.out.cells
    cases b with
    | false =>
      have HF : Hid (false = false) := Lib.hid rfl
      obtain ⟨t0, t1, t2, t3, t4, t5, t6, t7⟩ := HR8.out.cells
      have f0 := HR8.out.frozen 0
      have f1 := HR8.out.frozen 1
      have f2 := HR8.out.frozen 2
      have f3 := HR8.out.frozen 3
      have f4 := HR8.out.frozen 4
      have f5 := HR8.out.frozen 5
      have f6 := HR8.out.frozen 6
      have f7 := HR8.out.frozen 7
      go_wp2
      refine bodyPost_ret (v := .tuple #[.agg #[.int .i64 0, .string ⟨#[]⟩, .string ⟨#[]⟩, .bool false, .int .i64 0, .slice none 0 0, .slice none 0 0, .slice none 0 0], .bool false]) (by simp [results, Try.results41, go_sem, *]) rfl ?_
      rw [Nod.ior_no]
      exact igave_none (wr5_below w.heap.size w.heap.size (Nat.le_refl _) [(0, _), (1, _), (2, _), (3, _), (4, _), (5, _), (6, _), (7, _)] w w8 HBW.out)
    | true =>
      obtain ⟨t0, t1, t2, t3, t4, t5, t6, t7⟩ := HR8.out.cells
      have f0 := HR8.out.frozen 0
      have f1 := HR8.out.frozen 1
      have f2 := HR8.out.frozen 2
      have f3 := HR8.out.frozen 3
      have f4 := HR8.out.frozen 4
      have f5 := HR8.out.frozen 5
      have f6 := HR8.out.frozen 6
      have f7 := HR8.out.frozen 7
      go_wp2
      refine bodyPost_ret (v := .tuple #[.agg #[.int .i64 level, .string ⟨#[]⟩, .string ⟨#[]⟩, .bool true, .int .i64 (-1), .slice (some ⟨w1.heap.size, 0, none⟩) 2 2, .slice none 0 0, .slice (some ⟨w1.heap.size + 1, 0, none⟩) 2 2], .bool true]) (by simp [results, Try.results41, go_sem, *]) rfl ?_
      have hfar : ∀ g, w1.heap.size ≤ g → (wr5 w8 w.heap.size [(0, .int .i64 level), (1, .string ⟨#[]⟩), (2, .string ⟨#[]⟩), (3, .bool true), (4, .int .i64 (-1)), (5, .slice (some ⟨w1.heap.size, 0, none⟩) 2 2), (6, .slice none 0 0), (7, .slice (some ⟨w1.heap.size + 1, 0, none⟩) 2 2)]).heap[g]? = w8.heap[g]? := fun g hg => wr5_far w.heap.size g (by omega) _ _
      have hb9 := wr5_below w.heap.size w.heap.size (Nat.le_refl _) [(0, .int .i64 level), (1, .string ⟨#[]⟩), (2, .string ⟨#[]⟩), (3, .bool true), (4, .int .i64 (-1)), (5, .slice (some ⟨w1.heap.size, 0, none⟩) 2 2), (6, .slice none 0 0), (7, .slice (some ⟨w1.heap.size + 1, 0, none⟩) 2 2)] w w8 HBW.out
      have d1 : Far w1.heap.size (some (⟨w1.heap.size, 0, none⟩ : Addr)) := fun p hp => by injection hp with hp; subst hp; exact Nat.le_refl _
      have d2 : Far w1.heap.size (some (⟨w1.heap.size + 1, 0, none⟩ : Addr)) := fun p hp => by injection hp with hp; subst hp; show w1.heap.size ≤ w1.heap.size + 1; omega
      have k9 := HD8.out.k.off d1 hfar
      have c9 := HD8.out.c.off d2 hfar
      simp only [wr5] at hb9 k9 c9
      exact ⟨some ⟨w1.heap.size, 0, none⟩, none, some ⟨w1.heap.size + 1, 0, none⟩, 2, 0, 2, rfl, ⟨k9, Rd.nil _, c9⟩, hb9, d1.base (by omega), (fun _ h => by cases h), d2.base (by omega)⟩
end Go.Proofs.Ytnlghdkgejimpaa
