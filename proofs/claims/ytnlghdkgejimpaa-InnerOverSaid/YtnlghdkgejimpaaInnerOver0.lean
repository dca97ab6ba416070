/- inner.Over, the document's Over: a node over two others, or none. Condition: sizes that fit. -/
import Derived.Test.YtnlghdkgejimpaaInnerPost
import Derived.Test.YtnlghdkgejimpaaNodeLives
namespace Go.Proofs.Ytnlghdkgejimpaa
open Go.RowKit

def Nod.one (level left : Int) : Nod := ⟨level, -1, ⟨#[]⟩, ⟨#[]⟩, true, [⟨#[]⟩], [], [left]⟩
set_option maxHeartbeats 4000000 in
set_option maxRecDepth 100000 in
theorem over_of (level left right : Int) (low : ByteArray) (b : Bool) (w : World) (hk : low.size ≤ 140737488355328) (hb : b = true ↔ (Nod.one level left).PostP low right 64) :
    Calls Try.prog 40 #[.int .i64 level, .int .i64 left, .string low, .int .i64 right] w fun e w' => GaveN w w' e b (Nod.or b ((Nod.one level left).post low right)) := by
  obtain ⟨w1, hw1⟩ : ∃ w1, w1 = w.alloc (.cells #[.int .i64 0, .string ⟨#[]⟩, .string ⟨#[]⟩, .bool false, .int .i64 0, .slice none 0 0, .slice none 0 0, .slice none 0 0] 26) := ⟨_, rfl⟩
  have HB : Hid (Below w.heap.size w w1) := Lib.hid (by rw [hw1]; exact boxed_below w _)
  have HR : Hid (NB w1 w.heap.size #[.int .i64 0, .string ⟨#[]⟩, .string ⟨#[]⟩, .bool false, .int .i64 0, .slice none 0 0, .slice none 0 0, .slice none 0 0]) := Lib.hid (by rw [hw1]; exact NB.new w _)
  have HW1 := Lib.hid hw1
  have HEM := Lib.hid empty_any
  have HPO := Lib.hid (fun ak ac ck cc W (hN : NdAt W ak none ac 1 ck 0 0 1 cc [⟨#[]⟩] [] [left]) => post_of level (-1) ⟨#[]⟩ ⟨#[]⟩ true ak none ac ck 0 cc [⟨#[]⟩] [] [left] low right 64 b W hN ⟨by decide, by decide, fun x hx => by simp at hx; subst hx; decide, by simp⟩ hk hb)
  clear hw1
  obtain ⟨nn, hnn⟩ : ∃ nn, nn = Nod.or b ((Nod.one level left).post low right) := ⟨_, rfl⟩
  rw [show (⟨level, -1, ⟨#[]⟩, ⟨#[]⟩, true, [⟨#[]⟩], [], [left]⟩ : Nod) = Nod.one level left from rfl, ← hnn] at HPO
  have HNN := Lib.hid hnn
  clear hnn hk hb
  go_enter Try.func40, Try.ntmps40
  go_wp2_with fail
  rw [← HW1.out]
  refine (HEM.out _).mono ?_
  rintro e w2 ⟨rfl, hb2⟩
  have HB2 := Lib.hid hb2
  clear hb2
  obtain ⟨W3, hW3⟩ : ∃ W, W = w2.alloc (.cells #[.int .i64 0, .string ⟨#[]⟩, .string ⟨#[]⟩, .bool true, .int .i64 (-1), .slice none 0 0, .slice none 0 0, .slice none 0 0] 26) := ⟨_, rfl⟩
  have HX : Hid (NB W3 w2.heap.size #[.int .i64 0, .string ⟨#[]⟩, .string ⟨#[]⟩, .bool true, .int .i64 (-1), .slice none 0 0, .slice none 0 0, .slice none 0 0]) := Lib.hid (by rw [hW3]; exact NB.new w2 _)
  have HB3 : Hid (Below w1.heap.size w1 W3) := Lib.hid (by rw [hW3]; exact HB2.out.alloc HB2.out.size _)
  have HZ3 : Hid (W3.heap.size = w2.heap.size + 1) := Lib.hid (by rw [hW3, World.size_alloc])
  have HW3 := Lib.hid hW3
  clear hW3
  go_upto_region 2 with fail
  rw [← HW3.out]
  obtain ⟨q0, q1, q2, q3, q4, q5, q6, q7⟩ := HX.out.cells
  have x0 := HX.out.frozen 0
  have x5 := HX.out.frozen 5
  have x7 := HX.out.frozen 7
  have hlt : w2.heap.size < W3.heap.size := by have := HZ3.out; omega
  go_upto_region 3 with fail
  refine @nameW (fun W => Code.wp _ _ _ _ W) _ ?_
  intro W6 hW6
  obtain ⟨WA, hWA⟩ : ∃ WA, WA = ((W3.setCell ⟨w2.heap.size, 0, none⟩ (.int .i64 level)).setCell ⟨w2.heap.size, 5, none⟩ (.slice (some ⟨W3.heap.size, 0, none⟩) 1 1)).setCell ⟨w2.heap.size, 7, none⟩ (.slice (some ⟨W3.heap.size + 1, 0, none⟩) 1 1) := ⟨_, rfl⟩
  rw [← hWA] at hW6
  have nA := ((HX.out.s0 (.int .i64 level)).s5 (.slice (some ⟨W3.heap.size, 0, none⟩) 1 1)).s7 (.slice (some ⟨W3.heap.size + 1, 0, none⟩) 1 1)
  rw [← hWA] at nA
  have zA : WA.heap.size = W3.heap.size := by rw [hWA]; simp [World.setCell]
  have bA : Below w1.heap.size w1 WA := by rw [hWA]; exact ((HB3.out.setCell (p := ⟨w2.heap.size, 0, none⟩) HB2.out.size _).setCell (p := ⟨w2.heap.size, 5, none⟩) HB2.out.size _).setCell (p := ⟨w2.heap.size, 7, none⟩) HB2.out.size _
  have c1 := boxed_below WA (.cells #[.string ⟨#[]⟩] 9)
  have c2 := boxed_below (WA.alloc (.cells #[.string ⟨#[]⟩] 9)) (.cells #[.int .i64 left] 3)
  have zB : (WA.alloc (.cells #[.string ⟨#[]⟩] 9)).heap.size = W3.heap.size + 1 := by rw [World.size_alloc, zA]
  have r1 : W6.heap[W3.heap.size]? = some (.cells #[.string ⟨#[]⟩] 9 (0, 0)) := by
    have h := heap_alloc_new WA (.cells #[.string ⟨#[]⟩] 9)
    rw [zA] at h
    rw [hW6]
    exact (c2.block W3.heap.size (by rw [zB]; omega)).trans h
  have r2 : W6.heap[W3.heap.size + 1]? = some (.cells #[.int .i64 left] 3 (0, 0)) := by
    have h := heap_alloc_new (WA.alloc (.cells #[.string ⟨#[]⟩] 9)) (.cells #[.int .i64 left] 3)
    rw [zB] at h
    rw [hW6]
    exact h
  have b6 : Below w1.heap.size w1 W6 := by rw [hW6]; exact (bA.trans (c1.mono bA.size)).trans (c2.mono (Nat.le_trans bA.size c1.size))
  have HNX : Hid (NB W6 w2.heap.size #[.int .i64 level, .string ⟨#[]⟩, .string ⟨#[]⟩, .bool true, .int .i64 (-1), .slice (some ⟨W3.heap.size, 0, none⟩) 1 1, .slice none 0 0, .slice (some ⟨W3.heap.size + 1, 0, none⟩) 1 1]) := Lib.hid (by rw [hW6]; exact (nA.below c1).below c2)
  have HND : Hid (NdAt W6 (some ⟨W3.heap.size, 0, none⟩) none (some ⟨W3.heap.size + 1, 0, none⟩) 1 1 0 0 1 1 [⟨#[]⟩] [] [left]) := Lib.hid ⟨Whole.rd (xs := [.string ⟨#[]⟩]) r1 (by simp), Rd.nil _, Whole.rd (xs := [.int .i64 left]) r2 (by simp)⟩
  have HB6 := Lib.hid b6
  clear hW6 hWA nA zA bA c1 c2 zB r1 r2 b6 q0 q1 q2 q3 q4 q5 q6 q7 x0 x5 x7
  obtain ⟨q0, q1, q2, q3, q4, q5, q6, q7⟩ := HNX.out.cells
  go_wp2_with fail
  refine (HPO.out _ _ 1 1 W6 HND.out).mono ?_
  rintro e w8 ⟨ak8, av8, ac8, ck8, cv8, cc8, rfl, hnd8, hb8, hf8⟩
  have H8 : Hid (GaveN W6 w8 (.returned (.tuple #[.agg #[.int .i64 nn.lv, .string nn.lo, .string nn.hi, .bool nn.la, .int .i64 nn.nx, .slice ak8 nn.ks.length ck8, .slice av8 nn.vs.length cv8, .slice ac8 nn.cs.length cc8], .bool b])) b nn) := Lib.hid ⟨ak8, av8, ac8, ck8, cv8, cc8, rfl, hnd8, hb8, hf8⟩
  have HB8 := Lib.hid (HB6.out.trans (hb8.mono HB6.out.size))
  have HR8 := Lib.hid (HR.out.below HB8.out)
  have hz1 : w.heap.size < w1.heap.size := lt_of_block HR.out
  clear hnd8 hb8 hf8 q0 q1 q2 q3 q4 q5 q6 q7
  obtain ⟨t0, t1, t2, t3, t4, t5, t6, t7⟩ := HR8.out.cells
  have f0 := HR8.out.frozen 0
  have f1 := HR8.out.frozen 1
  have f2 := HR8.out.frozen 2
  have f3 := HR8.out.frozen 3
  have f4 := HR8.out.frozen 4
  have f5 := HR8.out.frozen 5
  have f6 := HR8.out.frozen 6
  have f7 := HR8.out.frozen 7
  go_wp2
  refine bodyPost_ret (v := .tuple #[.agg #[.int .i64 nn.lv, .string nn.lo, .string nn.hi, .bool nn.la, .int .i64 nn.nx, .slice ak8 nn.ks.length ck8, .slice av8 nn.vs.length cv8, .slice ac8 nn.cs.length cc8], .bool b]) (by simp [results, Try.results40, go_sem, *]) rfl ?_
  have hfin := gave_stored H8.out (HB.out.trans (HB6.out.mono HB.out.size)) (Nat.le_refl _) (Nat.lt_of_lt_of_le hz1 HB6.out.size) [(0, .int .i64 nn.lv), (1, .string nn.lo), (2, .string nn.hi), (3, .bool nn.la), (4, .int .i64 nn.nx), (5, .slice ak8 nn.ks.length ck8), (6, .slice av8 nn.vs.length cv8), (7, .slice ac8 nn.cs.length cc8)]
  simp only [wr5] at hfin
  rw [← HNN.out]
  exact hfin
end Go.Proofs.Ytnlghdkgejimpaa
