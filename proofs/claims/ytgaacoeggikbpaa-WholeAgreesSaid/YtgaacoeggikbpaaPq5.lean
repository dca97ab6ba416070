/- whole.isRoot, goesOn, strays, fits: what is asked of a node in a tree. Condition: the tree is made. whole.fits: whether a kid has the range that its entry tells. Condition: the tree is made. -/
import Derived.Test.YtgaacoeggikbpaaPq4
import Derived.BigQuiet
import Derived.Deep.RegionHeldLaw
import Derived.Deep.CutBlock
namespace Go.Proofs.Ytgaacoeggikbpaa
open Go.RowKit Go.Maps

theorem nod_open {w : World} {v : Value} {n : Nod} (h : NdV w v n) : ∃ (ak av ac : Option Addr) (ck cv cc : Nat), v = .agg #[.int .i64 n.lv, .string n.lo, .string n.hi, .bool n.la, .int .i64 n.nx, .slice ak n.ks.length ck, .slice av n.vs.length cv, .slice ac n.cs.length cc] ∧ NdAt w ak av ac n.ks.length ck n.vs.length cv n.cs.length cc n.ks n.vs n.cs := h
def rootP (lv : Int) (lo : ByteArray) (la : Bool) (nk : Nat) : Bool := decide (lo.size = 0) && (la && (decide (lv = 0) || decide (1 < nk)))
def goesP (ks : List Kn) (lv nx : Int) (hi : ByteArray) : Bool := (kfind ks nx).isSome && (decide ((nodOf ks nx).lv = lv) && decide ((nodOf ks nx).lo = hi))
def strayP (ks : List Kn) (lv x : Int) : Bool := !(kfind ks x).isSome || (decide ((nodOf ks x).lv ≠ lv - 1) || (decide (x = 0) || decide (1 < par ks x)))
set_option maxHeartbeats 4000000 in
set_option maxRecDepth 100000 in
theorem isRoot_any (lv nx : Int) (lo hi : ByteArray) (la : Bool) (ak av ac : Option Addr) (nk ck nv cv nc cc : Nat) (w : World) :
    Calls Try.prog 46 #[.agg #[.int .i64 lv, .string lo, .string hi, .bool la, .int .i64 nx, .slice ak nk ck, .slice av nv cv, .slice ac nc cc]] w fun e w' => e = .returned (.bool (rootP lv lo la nk)) ∧ Below w.heap.size w w' := by
  have hx := boxed_below w (.cells #[.int .i64 lv, .string lo, .string hi, .bool la, .int .i64 nx, .slice ak nk ck, .slice av nv cv, .slice ac nc cc] 38)
  have n1 := BX.new w 38 #[.int .i64 lv, .string lo, .string hi, .bool la, .int .i64 nx, .slice ak nk ck, .slice av nv cv, .slice ac nc cc]
  obtain ⟨G, hG⟩ : ∃ g, g = w.heap.size := ⟨_, rfl⟩
  rw [← hG] at n1
  obtain ⟨W1, hW1⟩ : ∃ W, W = w.alloc (.cells #[.int .i64 lv, .string lo, .string hi, .bool la, .int .i64 nx, .slice ak nk ck, .slice av nv cv, .slice ac nc cc] 38) := ⟨_, rfl⟩
  rw [← hW1] at hx n1
  have k0 := n1.cell 0 rfl
  have k1 := n1.cell 1 rfl
  have k3 := n1.cell 3 rfl
  have k5 := n1.cell 5 rfl
  have HX := Lib.hid hx
  have HW := Lib.hid (show G = w.heap.size ∧ _ from ⟨hG, hW1⟩)
  clear hx n1 hG hW1
  have fin : ∀ bb, rootP lv lo la nk = bb → Calls Try.prog 46 #[.agg #[.int .i64 lv, .string lo, .string hi, .bool la, .int .i64 nx, .slice ak nk ck, .slice av nv cv, .slice ac nc cc]] w (fun e w' => e = .returned (.bool bb) ∧ Below w.heap.size w w') → Calls Try.prog 46 #[.agg #[.int .i64 lv, .string lo, .string hi, .bool la, .int .i64 nx, .slice ak nk ck, .slice av nv cv, .slice ac nc cc]] w fun e w' => e = .returned (.bool (rootP lv lo la nk)) ∧ Below w.heap.size w w' := fun bb h1 h2 => by rw [h1]; exact h2
  by_cases h1 : lo.size = 0
  · have h1' := (empty_yes h1).1
    cases la with
    | false =>
      refine fin false (by simp [rootP, h1]) ?_
      clear fin h1
      go_enter Try.func46, Try.ntmps46
      go_upto_region 1 with fail
      rw [← HW.out.1, ← HW.out.2]
      clear HW
      go_wp2
      go_ret
      exact ⟨rfl, HX.out⟩
    | true =>
      by_cases h2 : lv = 0
      · subst h2
        refine fin true (by simp [rootP, h1]) ?_
        clear fin h1
        go_enter Try.func46, Try.ntmps46
        go_upto_region 1 with fail
        rw [← HW.out.1, ← HW.out.2]
        clear HW
        go_wp2
        go_ret
        exact ⟨rfl, HX.out⟩
      · have h2' : (lv == 0) = false := beq_eq_false_iff_ne.2 h2
        by_cases h3 : 1 < nk
        · have h3' : (1 : Int) < nk := by omega
          refine fin true (by simp [rootP, h1, h3]) ?_
          clear fin h1 h2
          go_enter Try.func46, Try.ntmps46
          go_upto_region 1 with fail
          rw [← HW.out.1, ← HW.out.2]
          clear HW
          go_wp2
          go_ret
          exact ⟨rfl, HX.out⟩
        · have h3' : decide ((1 : Int) < nk) = false := decide_eq_false (by omega)
          refine fin false (by simp [rootP, h1, h2, h3]) ?_
          clear fin h1 h2 h3
          go_enter Try.func46, Try.ntmps46
          go_upto_region 1 with fail
          rw [← HW.out.1, ← HW.out.2]
          clear HW
          go_wp2
          go_ret
          exact ⟨rfl, HX.out⟩
  · have h1' := (empty_no h1).1
    refine fin false (by simp [rootP, h1]) ?_
    clear fin h1
    go_enter Try.func46, Try.ntmps46
    go_upto_region 1 with fail
    rw [← HW.out.1, ← HW.out.2]
    clear HW
    go_wp2
    go_ret
    exact ⟨rfl, HX.out⟩
set_option maxHeartbeats 4000000 in
set_option maxRecDepth 100000 in
theorem goesOn_any (w0 : World) (bn bp n : Nat) (ks : List Kn) (lv nx : Int) (lo hi : ByteArray) (la : Bool) (ak av ac : Option Addr) (nk ck nv cv nc cc : Nat) (w : World) (hnm : NM w0 w bn n ks) (hwf : (Lit.int .i64 nx).wf = true) :
    (Calls Try.prog 55 #[.agg #[.map (some bn), .map (some bp)], .agg #[.int .i64 lv, .string lo, .string hi, .bool la, .int .i64 nx, .slice ak nk ck, .slice av nv cv, .slice ac nc cc]] w fun e w' => e = .returned (.bool (goesP ks lv nx hi)) ∧ Below w.heap.size w w') := by
  have hx1 := boxed_below w (.cells #[.map (some bn), .map (some bp)] 55)
  have n1 := BX.new w 55 #[.map (some bn), .map (some bp)]
  obtain ⟨G1, hG1⟩ : ∃ g, g = w.heap.size := ⟨_, rfl⟩
  rw [← hG1] at n1
  obtain ⟨W1, hW1⟩ : ∃ W, W = w.alloc (.cells #[.map (some bn), .map (some bp)] 55) := ⟨_, rfl⟩
  have s1 : W1.heap.size = w.heap.size + 1 := by rw [hW1]; exact World.size_alloc _ _
  rw [← hW1] at hx1 n1
  have hx2 := boxed_below W1 (.cells #[.int .i64 lv, .string lo, .string hi, .bool la, .int .i64 nx, .slice ak nk ck, .slice av nv cv, .slice ac nc cc] 38)
  have n2 := BX.new W1 38 #[.int .i64 lv, .string lo, .string hi, .bool la, .int .i64 nx, .slice ak nk ck, .slice av nv cv, .slice ac nc cc]
  obtain ⟨G2, hG2⟩ : ∃ g, g = w.heap.size + 1 := ⟨_, rfl⟩
  rw [s1, ← hG2] at n2
  obtain ⟨W2, hW2⟩ : ∃ W, W = W1.alloc (.cells #[.int .i64 lv, .string lo, .string hi, .bool la, .int .i64 nx, .slice ak nk ck, .slice av nv cv, .slice ac nc cc] 38) := ⟨_, rfl⟩
  rw [← hW2] at hx2 n2
  have n1 := n1.below hx2
  have hx := hx1.trans (hx2.mono hx1.size)
  rw [hW1] at hW2
  have t0 := n1.cell 0 rfl
  have t1 := n1.cell 1 rfl
  have k0 := n2.cell 0 rfl
  have k1 := n2.cell 1 rfl
  have k2 := n2.cell 2 rfl
  have k3 := n2.cell 3 rfl
  have k4 := n2.cell 4 rfl
  have k5 := n2.cell 5 rfl
  have k7 := n2.cell 7 rfl
  have HW := Lib.hid (show G1 = w.heap.size ∧ G2 = w.heap.size + 1 ∧ W2 = (w.alloc (.cells #[.map (some bn), .map (some bp)] 55)).alloc (.cells #[.int .i64 lv, .string lo, .string hi, .bool la, .int .i64 nx, .slice ak nk ck, .slice av nv cv, .slice ac nc cc] 38) from ⟨hG1, hG2, hW2⟩)
  obtain ⟨v, hv, hl1, hl2⟩ := (hnm.keep hx).look (c := nx) hwf
  obtain ⟨mak, mav, mac, mck, mcv, mcc, rfl, _⟩ := nod_open hv
  obtain ⟨mlv, hmlv⟩ : ∃ y, y = (nodOf ks nx).lv := ⟨_, rfl⟩
  obtain ⟨mlo, hmlo⟩ : ∃ y, y = (nodOf ks nx).lo := ⟨_, rfl⟩
  obtain ⟨mhi, hmhi⟩ : ∃ y, y = (nodOf ks nx).hi := ⟨_, rfl⟩
  obtain ⟨mla, hmla⟩ : ∃ y, y = (nodOf ks nx).la := ⟨_, rfl⟩
  obtain ⟨mnx, hmnx⟩ : ∃ y, y = (nodOf ks nx).nx := ⟨_, rfl⟩
  obtain ⟨mnk, hmnk⟩ : ∃ y, y = (nodOf ks nx).ks.length := ⟨_, rfl⟩
  obtain ⟨mnv, hmnv⟩ : ∃ y, y = (nodOf ks nx).vs.length := ⟨_, rfl⟩
  obtain ⟨mnc, hmnc⟩ : ∃ y, y = (nodOf ks nx).cs.length := ⟨_, rfl⟩
  obtain ⟨some_, hsome⟩ : ∃ y, y = (kfind ks nx).isSome := ⟨_, rfl⟩
  rw [← hmlv, ← hmlo, ← hmhi, ← hmla, ← hmnx, ← hmnk, ← hmnv, ← hmnc] at hl1 hl2
  rw [← hsome] at hl2
  have hx3 := boxed_below W2 (.cells #[.int .i64 mlv, .string mlo, .string mhi, .bool mla, .int .i64 mnx, .slice mak mnk mck, .slice mav mnv mcv, .slice mac mnc mcc] 38)
  have n3 := BX.new W2 38 #[.int .i64 mlv, .string mlo, .string mhi, .bool mla, .int .i64 mnx, .slice mak mnk mck, .slice mav mnv mcv, .slice mac mnc mcc]
  obtain ⟨G3, hG3⟩ : ∃ g, g = W2.heap.size := ⟨_, rfl⟩
  rw [← hG3] at n3
  obtain ⟨W3, hW3⟩ : ∃ W, W = W2.alloc (.cells #[.int .i64 mlv, .string mlo, .string mhi, .bool mla, .int .i64 mnx, .slice mak mnk mck, .slice mav mnv mcv, .slice mac mnc mcc] 38) := ⟨_, rfl⟩
  rw [← hW3] at hx3 n3
  have p0 := (n2.below hx3).cell 0 rfl
  have p2 := (n2.below hx3).cell 2 rfl
  have p3 := (n2.below hx3).cell 3 rfl
  have p5 := (n2.below hx3).cell 5 rfl
  have p7 := (n2.below hx3).cell 7 rfl
  have u0 := (n1.below hx3).cell 0 rfl
  have u1 := (n1.below hx3).cell 1 rfl
  have m0 := n3.cell 0 rfl
  have m1 := n3.cell 1 rfl
  have m2 := n3.cell 2 rfl
  have m3 := n3.cell 3 rfl
  have HW3 := Lib.hid (show G3 = W2.heap.size ∧ W3 = W2.alloc (.cells #[.int .i64 mlv, .string mlo, .string mhi, .bool mla, .int .i64 mnx, .slice mak mnk mck, .slice mav mnv mcv, .slice mac mnc mcc] 38) from ⟨hG3, hW3⟩)
  have hx := hx.trans (hx3.mono hx.size)
  have hb : goesP ks lv nx hi = (some_ && (decide (mlv = lv) && decide (mlo = hi))) := by rw [hmlv, hmlo, hsome]; rfl
  have HX := Lib.hid hx
  rw [hb]
  clear hx hx1 hx2 hx3 n1 n2 n3 hG3 hW3 hG1 hG2 hW1 hW2 s1 hmlv hmlo hmhi hmla hmnx hmnk hmnv hmnc hsome hl1 hv hb hnm hwf
  have fin : ∀ bb, (some_ && (decide (mlv = lv) && decide (mlo = hi))) = bb → (Calls Try.prog 55 #[.agg #[.map (some bn), .map (some bp)], .agg #[.int .i64 lv, .string lo, .string hi, .bool la, .int .i64 nx, .slice ak nk ck, .slice av nv cv, .slice ac nc cc]] w fun e w' => e = .returned (.bool bb) ∧ Below w.heap.size w w') → (Calls Try.prog 55 #[.agg #[.map (some bn), .map (some bp)], .agg #[.int .i64 lv, .string lo, .string hi, .bool la, .int .i64 nx, .slice ak nk ck, .slice av nv cv, .slice ac nc cc]] w fun e w' => e = .returned (.bool (some_ && (decide (mlv = lv) && decide (mlo = hi)))) ∧ Below w.heap.size w w') := fun bb h1 h2 => by rw [h1]; exact h2
  cases some_ with
  | false =>
    refine fin false (by simp) ?_
    clear fin
    go_enter Try.func55, Try.ntmps55
    go_upto_region 1 with fail
    (try simp only [World.size_alloc])
    rw [← HW.out.2.1, ← HW.out.1, ← HW.out.2.2]
    clear HW
    go_upto_region 2 with fail
    rw [← HW3.out.1, ← HW3.out.2]
    clear HW3
    go_wp2
    go_ret
    exact ⟨rfl, HX.out⟩
  | true =>
    by_cases h1 : mlv = lv
    · subst h1
      by_cases h2 : mlo = hi
      · subst h2
        refine fin true (by simp) ?_
        clear fin
        go_enter Try.func55, Try.ntmps55
        go_upto_region 1 with fail
        (try simp only [World.size_alloc])
        rw [← HW.out.2.1, ← HW.out.1, ← HW.out.2.2]
        clear HW
        go_upto_region 2 with fail
        rw [← HW3.out.1, ← HW3.out.2]
        clear HW3
        go_wp2
        go_ret
        exact ⟨rfl, HX.out⟩
      · have h2' := (txt_not h2).1
        refine fin false (by simp [h2]) ?_
        clear fin h2
        go_enter Try.func55, Try.ntmps55
        go_upto_region 1 with fail
        (try simp only [World.size_alloc])
        rw [← HW.out.2.1, ← HW.out.1, ← HW.out.2.2]
        clear HW
        go_upto_region 2 with fail
        rw [← HW3.out.1, ← HW3.out.2]
        clear HW3
        go_wp2
        go_ret
        exact ⟨rfl, HX.out⟩
    · have h1' : (mlv == lv) = false := beq_eq_false_iff_ne.2 h1
      refine fin false (by simp [h1]) ?_
      clear fin h1
      go_enter Try.func55, Try.ntmps55
      go_upto_region 1 with fail
      (try simp only [World.size_alloc])
      rw [← HW.out.2.1, ← HW.out.1, ← HW.out.2.2]
      clear HW
      go_upto_region 2 with fail
      rw [← HW3.out.1, ← HW3.out.2]
      clear HW3
      go_wp2
      go_ret
      exact ⟨rfl, HX.out⟩
set_option maxHeartbeats 4000000 in
set_option maxRecDepth 100000 in
theorem strays_any (w0 : World) (bn bp n N : Nat) (ks : List Kn) (lv nx : Int) (lo hi : ByteArray) (la : Bool) (ak av ac : Option Addr) (nk ck nv cv nc cc : Nat) (cs : List Int) (i : Nat) (w : World) (hnm : NM w0 w bn n ks) (him : IM w bp N (fun x => par ks x)) (hr : Rd w (.slice ac nc cc) (cs.map (Value.int .i64))) (hic : i < nc) (hwf : (Lit.int .i64 (ni cs i)).wf = true) (hlv : 0 ≤ lv ∧ lv < 14) :
    (Calls Try.prog 50 #[.agg #[.map (some bn), .map (some bp)], .agg #[.int .i64 lv, .string lo, .string hi, .bool la, .int .i64 nx, .slice ak nk ck, .slice av nv cv, .slice ac nc cc], .int .i64 (i : Nat)] w fun e w' => e = .returned (.bool (strayP ks lv (ni cs i))) ∧ Below w.heap.size w w') := by
  obtain ⟨x, hx0⟩ : ∃ x, x = ni cs i := ⟨_, rfl⟩
  obtain ⟨g, o, rfl, hc⟩ := rd_at hr (0 : Int) i hic
  have hx1 := boxed_below w (.cells #[.map (some bn), .map (some bp)] 55)
  have n1 := BX.new w 55 #[.map (some bn), .map (some bp)]
  obtain ⟨G1, hG1⟩ : ∃ g, g = w.heap.size := ⟨_, rfl⟩
  rw [← hG1] at n1
  obtain ⟨W1, hW1⟩ : ∃ W, W = w.alloc (.cells #[.map (some bn), .map (some bp)] 55) := ⟨_, rfl⟩
  have s1 : W1.heap.size = w.heap.size + 1 := by rw [hW1]; exact World.size_alloc _ _
  rw [← hW1] at hx1 n1
  have hx2 := boxed_below W1 (.cells #[.int .i64 lv, .string lo, .string hi, .bool la, .int .i64 nx, .slice ak nk ck, .slice av nv cv, .slice (some ⟨g, o, none⟩) nc cc] 38)
  have n2 := BX.new W1 38 #[.int .i64 lv, .string lo, .string hi, .bool la, .int .i64 nx, .slice ak nk ck, .slice av nv cv, .slice (some ⟨g, o, none⟩) nc cc]
  obtain ⟨G2, hG2⟩ : ∃ g, g = w.heap.size + 1 := ⟨_, rfl⟩
  rw [s1, ← hG2] at n2
  obtain ⟨W2, hW2⟩ : ∃ W, W = W1.alloc (.cells #[.int .i64 lv, .string lo, .string hi, .bool la, .int .i64 nx, .slice ak nk ck, .slice av nv cv, .slice (some ⟨g, o, none⟩) nc cc] 38) := ⟨_, rfl⟩
  rw [← hW2] at hx2 n2
  have n1 := n1.below hx2
  have hx := hx1.trans (hx2.mono hx1.size)
  rw [hW1] at hW2
  have t0 := n1.cell 0 rfl
  have t1 := n1.cell 1 rfl
  have k0 := n2.cell 0 rfl
  have k1 := n2.cell 1 rfl
  have k2 := n2.cell 2 rfl
  have k3 := n2.cell 3 rfl
  have k4 := n2.cell 4 rfl
  have k5 := n2.cell 5 rfl
  have k7 := n2.cell 7 rfl
  have HW := Lib.hid (show G1 = w.heap.size ∧ G2 = w.heap.size + 1 ∧ W2 = (w.alloc (.cells #[.map (some bn), .map (some bp)] 55)).alloc (.cells #[.int .i64 lv, .string lo, .string hi, .bool la, .int .i64 nx, .slice ak nk ck, .slice av nv cv, .slice (some ⟨g, o, none⟩) nc cc] 38) from ⟨hG1, hG2, hW2⟩)
  have c0 : W2.cell? ⟨g, o + i, none⟩ = some (.int .i64 x) := by
    have h1 := hc i hic
    rw [hx0]
    exact (hx.cell (p := ⟨g, o + i, none⟩) (World.block_lt_of_cell? w _ h1)).trans h1
  have hcc := (rd_len hr).2.1
  rw [← hx0] at hwf ⊢
  have hic' : (i : Int) < nc := by omega
  have hw : IntKind.i64.wrap (lv - 1) = lv - 1 := by rw [IntKind.wrap_i64]; omega
  obtain ⟨v, hv, hl1, hl2⟩ := (hnm.keep hx).look (c := x) hwf
  obtain ⟨mak, mav, mac, mck, mcv, mcc, rfl, _⟩ := nod_open hv
  obtain ⟨mlv, hmlv⟩ : ∃ y, y = (nodOf ks x).lv := ⟨_, rfl⟩
  obtain ⟨mlo, hmlo⟩ : ∃ y, y = (nodOf ks x).lo := ⟨_, rfl⟩
  obtain ⟨mhi, hmhi⟩ : ∃ y, y = (nodOf ks x).hi := ⟨_, rfl⟩
  obtain ⟨mla, hmla⟩ : ∃ y, y = (nodOf ks x).la := ⟨_, rfl⟩
  obtain ⟨mnx, hmnx⟩ : ∃ y, y = (nodOf ks x).nx := ⟨_, rfl⟩
  obtain ⟨mnk, hmnk⟩ : ∃ y, y = (nodOf ks x).ks.length := ⟨_, rfl⟩
  obtain ⟨mnv, hmnv⟩ : ∃ y, y = (nodOf ks x).vs.length := ⟨_, rfl⟩
  obtain ⟨mnc, hmnc⟩ : ∃ y, y = (nodOf ks x).cs.length := ⟨_, rfl⟩
  obtain ⟨some_, hsome⟩ : ∃ y, y = (kfind ks x).isSome := ⟨_, rfl⟩
  rw [← hmlv, ← hmlo, ← hmhi, ← hmla, ← hmnx, ← hmnk, ← hmnv, ← hmnc] at hl1 hl2
  rw [← hsome] at hl2
  have hx3 := boxed_below W2 (.cells #[.int .i64 mlv, .string mlo, .string mhi, .bool mla, .int .i64 mnx, .slice mak mnk mck, .slice mav mnv mcv, .slice mac mnc mcc] 38)
  have n3 := BX.new W2 38 #[.int .i64 mlv, .string mlo, .string mhi, .bool mla, .int .i64 mnx, .slice mak mnk mck, .slice mav mnv mcv, .slice mac mnc mcc]
  obtain ⟨G3, hG3⟩ : ∃ g, g = W2.heap.size := ⟨_, rfl⟩
  rw [← hG3] at n3
  obtain ⟨W3, hW3⟩ : ∃ W, W = W2.alloc (.cells #[.int .i64 mlv, .string mlo, .string mhi, .bool mla, .int .i64 mnx, .slice mak mnk mck, .slice mav mnv mcv, .slice mac mnc mcc] 38) := ⟨_, rfl⟩
  rw [← hW3] at hx3 n3
  have p0 := (n2.below hx3).cell 0 rfl
  have p2 := (n2.below hx3).cell 2 rfl
  have p3 := (n2.below hx3).cell 3 rfl
  have p5 := (n2.below hx3).cell 5 rfl
  have p7 := (n2.below hx3).cell 7 rfl
  have u0 := (n1.below hx3).cell 0 rfl
  have u1 := (n1.below hx3).cell 1 rfl
  have m0 := n3.cell 0 rfl
  have m1 := n3.cell 1 rfl
  have m2 := n3.cell 2 rfl
  have m3 := n3.cell 3 rfl
  have HW3 := Lib.hid (show G3 = W2.heap.size ∧ W3 = W2.alloc (.cells #[.int .i64 mlv, .string mlo, .string mhi, .bool mla, .int .i64 mnx, .slice mak mnk mck, .slice mav mnv mcv, .slice mac mnc mcc] 38) from ⟨hG3, hW3⟩)
  have hx := hx.trans (hx3.mono hx.size)
  have hl3 := (him.keep hx).look hwf
  obtain ⟨z, hz⟩ : ∃ z, z = par ks x := ⟨_, rfl⟩
  rw [← hz] at hl3
  have hb : strayP ks lv x = (!some_ || (decide (mlv ≠ lv - 1) || (decide (x = 0) || decide (1 < z)))) := by rw [hmlv, hsome, hz]; rfl
  have HX := Lib.hid hx
  rw [hb]
  clear hx hx1 hx2 hx3 n1 n2 n3 hG3 hW3 hG1 hG2 hW1 hW2 s1 hmlv hmlo hmhi hmla hmnx hmnk hmnv hmnc hsome hl1 hv hb hnm hwf him hr hc hx0 hz
  have fin : ∀ bb, (!some_ || (decide (mlv ≠ lv - 1) || (decide (x = 0) || decide (1 < z)))) = bb → (Calls Try.prog 50 #[.agg #[.map (some bn), .map (some bp)], .agg #[.int .i64 lv, .string lo, .string hi, .bool la, .int .i64 nx, .slice ak nk ck, .slice av nv cv, .slice (some ⟨g, o, none⟩) nc cc], .int .i64 (i : Nat)] w fun e w' => e = .returned (.bool bb) ∧ Below w.heap.size w w') → (Calls Try.prog 50 #[.agg #[.map (some bn), .map (some bp)], .agg #[.int .i64 lv, .string lo, .string hi, .bool la, .int .i64 nx, .slice ak nk ck, .slice av nv cv, .slice (some ⟨g, o, none⟩) nc cc], .int .i64 (i : Nat)] w fun e w' => e = .returned (.bool (!some_ || (decide (mlv ≠ lv - 1) || (decide (x = 0) || decide (1 < z))))) ∧ Below w.heap.size w w') := fun bb h1 h2 => by rw [h1]; exact h2
  cases some_ with
  | false =>
    refine fin true (by simp) ?_
    clear fin
    go_enter Try.func50, Try.ntmps50
    go_upto_region 1 with fail
    (try simp only [World.size_alloc])
    rw [← HW.out.2.1, ← HW.out.1, ← HW.out.2.2]
    clear HW
    go_upto_region 3 with fail
    rw [← HW3.out.1, ← HW3.out.2]
    clear HW3
    go_wp2
    go_ret
    exact ⟨rfl, HX.out⟩
  | true =>
    by_cases h1 : mlv = lv - 1
    · subst h1
      have h1' : (lv - 1 == lv - 1) = true := by simp
      by_cases h2 : x = 0
      · subst h2
        refine fin true (by simp) ?_
        clear fin
        go_enter Try.func50, Try.ntmps50
        go_upto_region 1 with fail
        (try simp only [World.size_alloc])
        rw [← HW.out.2.1, ← HW.out.1, ← HW.out.2.2]
        clear HW
        go_upto_region 3 with fail
        rw [← HW3.out.1, ← HW3.out.2]
        clear HW3
        go_wp2
        go_ret
        exact ⟨rfl, HX.out⟩
      · have h2' : (x == 0) = false := beq_eq_false_iff_ne.2 h2
        by_cases h3 : 1 < z
        · have h3' : (1 : Int) < z := by omega
          refine fin true (by simp [h3]) ?_
          clear fin h2
          go_enter Try.func50, Try.ntmps50
          go_upto_region 1 with fail
          (try simp only [World.size_alloc])
          rw [← HW.out.2.1, ← HW.out.1, ← HW.out.2.2]
          clear HW
          go_upto_region 3 with fail
          rw [← HW3.out.1, ← HW3.out.2]
          clear HW3
          go_wp2
          go_ret
          exact ⟨rfl, HX.out⟩
        · have h3' : decide ((1 : Int) < z) = false := decide_eq_false (by omega)
          refine fin false (by simp [h2, h3]) ?_
          clear fin h2 h3
          go_enter Try.func50, Try.ntmps50
          go_upto_region 1 with fail
          (try simp only [World.size_alloc])
          rw [← HW.out.2.1, ← HW.out.1, ← HW.out.2.2]
          clear HW
          go_upto_region 3 with fail
          rw [← HW3.out.1, ← HW3.out.2]
          clear HW3
          go_wp2
          go_ret
          exact ⟨rfl, HX.out⟩
    · have h1' : (mlv != lv - 1) = true := by rw [bne_iff_ne]; exact h1
      refine fin true (by simp [h1]) ?_
      clear fin h1
      go_enter Try.func50, Try.ntmps50
      go_upto_region 1 with fail
      (try simp only [World.size_alloc])
      rw [← HW.out.2.1, ← HW.out.1, ← HW.out.2.2]
      clear HW
      go_upto_region 3 with fail
      rw [← HW3.out.1, ← HW3.out.2]
      clear HW3
      go_wp2
      go_ret
      exact ⟨rfl, HX.out⟩
end Go.Proofs.Ytgaacoeggikbpaa

namespace Go.Proofs.Ytgaacoeggikbpaa
open Go.RowKit Go.Maps

theorem NM.lookAll {w0 w : World} {b N : Nat} {ks : List Kn} (h : NM w0 w b N ks) {c : Int} (hc : (Lit.int .i64 c).wf = true) :
    ∃ v, NdV w0 v (nodOf ks c) ∧ ∀ W, Below w.heap.size w W → (Instr.lookup 52 (.map (some b)) (.int .i64 c) false).run Try.prog W = .ok v W ∧ (Instr.lookup 52 (.map (some b)) (.int .i64 c) true).run Try.prog W = .ok (.tuple #[v, .bool (kfind ks c).isSome]) W := by
  obtain ⟨D, h0, h2, h3⟩ := h
  have key : ∀ v, (kfind ks c = none → v = .agg #[.int .i64 0, .string ⟨#[]⟩, .string ⟨#[]⟩, .bool false, .int .i64 0, .slice none 0 0, .slice none 0 0, .slice none 0 0]) → (∀ k, kfind ks c = some k → Maps.has D (.int .i64 c) = true ∧ ∀ z, D.atKey (.int .i64 c) z = .held v) → ∀ W, Below w.heap.size w W → (Instr.lookup 52 (.map (some b)) (.int .i64 c) false).run Try.prog W = .ok v W ∧ (Instr.lookup 52 (.map (some b)) (.int .i64 c) true).run Try.prog W = .ok (.tuple #[v, .bool (kfind ks c).isSome]) W := fun v hn hs W hW => by
    have h1 := ownsMap_block14 h0 (hW.block b h0.lt)
    obtain ⟨u, ps, hrun, hv⟩ := h1.lookup keyedC Try.underlying52 (zeroNd W) (zd := .held (.agg #[.int .i64 0, .string ⟨#[]⟩, .string ⟨#[]⟩, .bool false, .int .i64 0, .slice none 0 0, .slice none 0 0, .slice none 0 0])) (zp := []) rfl (keyInt hc)
    obtain ⟨u2, ps2, hrun2, hv2⟩ := h1.look_ok keyedC Try.underlying52 (zeroNd W) (zd := .held (.agg #[.int .i64 0, .string ⟨#[]⟩, .string ⟨#[]⟩, .bool false, .int .i64 0, .slice none 0 0, .slice none 0 0, .slice none 0 0])) (zp := []) rfl (keyInt hc)
    cases hk : kfind ks c with
    | none =>
      have hz := atKey_of_not_has (h2 c hk)
      rw [hz] at hv hv2
      injection hv with hv
      injection hv with hv _
      injection hv with hv
      injection hv2 with hv2
      injection hv2 with hv2 _
      injection hv2 with hv2
      subst hv hv2
      rw [hn hk]
      refine ⟨hrun, ?_⟩
      rw [hrun2, h2 c hk]
      rfl
    | some k =>
      obtain ⟨hh, hat⟩ := hs k hk
      rw [hat] at hv hv2
      injection hv with hv
      injection hv with hv _
      injection hv with hv
      injection hv2 with hv2
      injection hv2 with hv2 _
      injection hv2 with hv2
      subst hv hv2
      refine ⟨hrun, ?_⟩
      rw [hrun2, hh]
      rfl
  unfold nodOf
  cases hk : kfind ks c with
  | none =>
    rw [hk] at key
    exact ⟨_, NdV.zero w0, key _ (fun _ => rfl) (fun k e => by cases e)⟩
  | some k =>
    obtain ⟨hh, v, hat, hnd⟩ := h3 c k hk
    rw [hk] at key
    exact ⟨v, hnd, key v (fun e => by cases e) (fun _ _ => ⟨hh, hat⟩)⟩
def fitP (ks : List Kn) (a b : ByteArray) (c : Bool) (x : Int) : Bool := decide (a = (nodOf ks x).lo) && (decide (b = (nodOf ks x).hi) && decide (c = (nodOf ks x).la))
set_option maxHeartbeats 8000000 in
set_option maxRecDepth 100000 in
theorem fits_any (w0 : World) (bn bp n : Nat) (ks : List Kn) (lv nx : Int) (lo hi : ByteArray) (la : Bool) (ak av ac : Option Addr) (nk ck nv cv nc cc : Nat) (kss : List ByteArray) (cs : List Int) (i : Nat) (w : World) (hnm : NM w0 w bn n ks) (hrk : Rd w (.slice ak nk ck) (kss.map Value.string)) (hr : Rd w (.slice ac nc cc) (cs.map (Value.int .i64))) (hik : i < nk) (hic : i < nc) (hwf : (Lit.int .i64 (ni cs i)).wf = true) :
    (Calls Try.prog 53 #[.agg #[.map (some bn), .map (some bp)], .agg #[.int .i64 lv, .string lo, .string hi, .bool la, .int .i64 nx, .slice ak nk ck, .slice av nv cv, .slice ac nc cc], .int .i64 (i : Nat)] w fun e w' => e = .returned (.bool (fitP ks (nth kss i) (if i + 1 < nk then nth kss (i + 1) else hi) (if i + 1 < nk then false else la) (ni cs i))) ∧ Below w.heap.size w w') := by
  obtain ⟨x, hx0⟩ : ∃ x, x = ni cs i := ⟨_, rfl⟩
  obtain ⟨klo, hklo⟩ : ∃ x, x = nth kss i := ⟨_, rfl⟩
  obtain ⟨khi, hkhi⟩ : ∃ x, x = nth kss (i + 1) := ⟨_, rfl⟩
  obtain ⟨gk, ok, rfl, hck⟩ := rd_at hrk (⟨#[]⟩ : ByteArray) i hik
  obtain ⟨g, o, rfl, hc⟩ := rd_at hr (0 : Int) i hic
  have hx1 := boxed_below w (.cells #[.map (some bn), .map (some bp)] 55)
  have n1 := BX.new w 55 #[.map (some bn), .map (some bp)]
  obtain ⟨G1, hG1⟩ : ∃ g, g = w.heap.size := ⟨_, rfl⟩
  rw [← hG1] at n1
  obtain ⟨W1, hW1⟩ : ∃ W, W = w.alloc (.cells #[.map (some bn), .map (some bp)] 55) := ⟨_, rfl⟩
  have s1 : W1.heap.size = w.heap.size + 1 := by rw [hW1]; exact World.size_alloc _ _
  rw [← hW1] at hx1 n1
  have hx2 := boxed_below W1 (.cells #[.int .i64 lv, .string lo, .string hi, .bool la, .int .i64 nx, .slice (some ⟨gk, ok, none⟩) nk ck, .slice av nv cv, .slice (some ⟨g, o, none⟩) nc cc] 38)
  have n2 := BX.new W1 38 #[.int .i64 lv, .string lo, .string hi, .bool la, .int .i64 nx, .slice (some ⟨gk, ok, none⟩) nk ck, .slice av nv cv, .slice (some ⟨g, o, none⟩) nc cc]
  obtain ⟨G2, hG2⟩ : ∃ g, g = w.heap.size + 1 := ⟨_, rfl⟩
  rw [s1, ← hG2] at n2
  obtain ⟨W2, hW2⟩ : ∃ W, W = W1.alloc (.cells #[.int .i64 lv, .string lo, .string hi, .bool la, .int .i64 nx, .slice (some ⟨gk, ok, none⟩) nk ck, .slice av nv cv, .slice (some ⟨g, o, none⟩) nc cc] 38) := ⟨_, rfl⟩
  rw [← hW2] at hx2 n2
  have n1 := n1.below hx2
  have hx := hx1.trans (hx2.mono hx1.size)
  rw [hW1] at hW2
  have t0 := n1.cell 0 rfl
  have t1 := n1.cell 1 rfl
  have k0 := n2.cell 0 rfl
  have k1 := n2.cell 1 rfl
  have k2 := n2.cell 2 rfl
  have k3 := n2.cell 3 rfl
  have k4 := n2.cell 4 rfl
  have k5 := n2.cell 5 rfl
  have k7 := n2.cell 7 rfl
  have HW := Lib.hid (show G1 = w.heap.size ∧ G2 = w.heap.size + 1 ∧ W2 = (w.alloc (.cells #[.map (some bn), .map (some bp)] 55)).alloc (.cells #[.int .i64 lv, .string lo, .string hi, .bool la, .int .i64 nx, .slice (some ⟨gk, ok, none⟩) nk ck, .slice av nv cv, .slice (some ⟨g, o, none⟩) nc cc] 38) from ⟨hG1, hG2, hW2⟩)
  have c0 : W2.cell? ⟨g, o + i, none⟩ = some (.int .i64 x) := by
    have h1 := hc i hic
    rw [hx0]
    exact (hx.cell (p := ⟨g, o + i, none⟩) (World.block_lt_of_cell? w _ h1)).trans h1
  have e0 : W2.cell? ⟨gk, ok + i, none⟩ = some (.string klo) := by
    have h1 := hck i hik
    rw [hklo]
    exact (hx.cell (p := ⟨gk, ok + i, none⟩) (World.block_lt_of_cell? w _ h1)).trans h1
  have hcc := (rd_len hr).2.1
  have hck2 := (rd_len hrk).2.1
  have hck3 := (rd_len hrk).2.2
  rw [← hx0] at hwf ⊢
  rw [← hklo, ← hkhi]
  obtain ⟨hI, hhI⟩ : ∃ y, y = (if i + 1 < nk then khi else hi) := ⟨_, rfl⟩
  obtain ⟨lI, hlI⟩ : ∃ y, y = (if i + 1 < nk then false else la) := ⟨_, rfl⟩
  rw [← hhI, ← hlI]
  have hic' : (i : Int) < nc := by omega
  have hik' : (i : Int) < nk := by omega
  have hi0 : (0 : Int) ≤ i := by omega
  have hw : IntKind.i64.wrap ((i : Int) + 1) = (i : Int) + 1 := by rw [IntKind.wrap_i64]; omega
  obtain ⟨v, hv, hl1, hl2⟩ := (hnm.keep hx).look (c := x) hwf
  obtain ⟨mak, mav, mac, mck, mcv, mcc, rfl, _⟩ := nod_open hv
  obtain ⟨mlv, hmlv⟩ : ∃ y, y = (nodOf ks x).lv := ⟨_, rfl⟩
  obtain ⟨mlo, hmlo⟩ : ∃ y, y = (nodOf ks x).lo := ⟨_, rfl⟩
  obtain ⟨mhi, hmhi⟩ : ∃ y, y = (nodOf ks x).hi := ⟨_, rfl⟩
  obtain ⟨mla, hmla⟩ : ∃ y, y = (nodOf ks x).la := ⟨_, rfl⟩
  obtain ⟨mnx, hmnx⟩ : ∃ y, y = (nodOf ks x).nx := ⟨_, rfl⟩
  obtain ⟨mnk, hmnk⟩ : ∃ y, y = (nodOf ks x).ks.length := ⟨_, rfl⟩
  obtain ⟨mnv, hmnv⟩ : ∃ y, y = (nodOf ks x).vs.length := ⟨_, rfl⟩
  obtain ⟨mnc, hmnc⟩ : ∃ y, y = (nodOf ks x).cs.length := ⟨_, rfl⟩
  obtain ⟨some_, hsome⟩ : ∃ y, y = (kfind ks x).isSome := ⟨_, rfl⟩
  rw [← hmlv, ← hmlo, ← hmhi, ← hmla, ← hmnx, ← hmnk, ← hmnv, ← hmnc] at hl1 hl2
  rw [← hsome] at hl2
  have HN1 := Lib.hid n1
  have HN2 := Lib.hid n2
  have HC := Lib.hid (show (∀ j, j < nk → w.cell? ⟨gk, ok + j, none⟩ = some (.string (nth kss j))) ∧ ∀ j, j < nc → w.cell? ⟨g, o + j, none⟩ = some (.int .i64 (ni cs j)) from ⟨hck, hc⟩)
  have HX := Lib.hid hx
  have HNM := Lib.hid hnm
  have HE := Lib.hid (show _ ∧ _ ∧ _ ∧ _ ∧ _ ∧ _ ∧ _ ∧ _ ∧ _ ∧ _ ∧ _ from ⟨hmlv, hmlo, hmhi, hmla, hmnx, hmnk, hmnv, hmnc, hx0, hklo, hkhi⟩)
  have HI := Lib.hid (show _ ∧ _ from ⟨hhI, hlI⟩)
  have HWF := Lib.hid hwf
  have hb : fitP ks klo hI lI x = (decide (klo = mlo) && (decide (hI = mhi) && decide (lI = mla))) := by rw [hmlo, hmhi, hmla]; rfl
  rw [hb]
  clear hx hx1 hx2 n1 n2 hG1 hG2 hW1 hW2 s1 hmlv hmlo hmhi hmla hmnx hmnk hmnv hmnc hsome hl2 hv hck hc hnm hrk hr hx0 hklo hkhi hwf hhI hlI hb
  obtain ⟨G3, hG3⟩ : ∃ g, g = W2.heap.size := ⟨_, rfl⟩
  have HG3 := Lib.hid hG3
  clear hG3
  go_enter Try.func53, Try.ntmps53
  go_upto_region 1 with fail
  (try simp only [World.size_alloc])
  rw [← HW.out.2.1, ← HW.out.1, ← HW.out.2.2]
  clear HW
  go_cut [7] (fun v7 wx => v7 = .pointer (some ⟨G3, 0, none⟩) ∧ Hid (BX wx G3 95 #[.string klo, .string hi, .bool la] ∧ Below W2.heap.size W2 wx))
  case first =>
    rename_i J1 K1 hJ1 hK1
    have hxa := boxed_below W2 (.cells #[.string ⟨#[]⟩, .string ⟨#[]⟩, .bool false] 95)
    have a2 := (HN2.out.below hxa).cell 2 rfl
    have a3 := (HN2.out.below hxa).cell 3 rfl
    have a5 := (HN2.out.below hxa).cell 5 rfl
    have ae := (hxa.cell (p := ⟨gk, ok + i, none⟩) (World.block_lt_of_cell? W2 _ e0)).trans e0
    have HXA := Lib.hid hxa
    clear t0 t1 k0 k1 k4 k7 c0 hl1 hxa
    go_region
    refine hK1 _ _ (Met.intro (hJ1 _ _ ?_))
    (repeat apply Exists.intro)
    refine ⟨?_, rfl⟩
    exact ⟨by rw [HG3.out], Lib.hid ⟨by rw [HG3.out]; exact BX.new W2 95 #[.string klo, .string hi, .bool la], (boxed_below W2 (.cells #[.string klo, .string hi, .bool la] 95)).drew⟩⟩
  case rest =>
    obtain ⟨rfl, HB⟩ := hcut
    have x3 := HB.out.1
    have hb2 := HB.out.2
    have k2 := (HN2.out.below hb2).cell 2 rfl
    have k3 := (HN2.out.below hb2).cell 3 rfl
    have k5 := (HN2.out.below hb2).cell 5 rfl
    have y1 := x3.cell 1 rfl
    have y2 := x3.cell 2 rfl
    have f1 : wc.frozen? ⟨G3, 1, none⟩ = false := by have h := x3; unfold BX at h; simp [World.frozen?, h]
    have f2 : wc.frozen? ⟨G3, 2, none⟩ = false := by have h := x3; unfold BX at h; simp [World.frozen?, h]
    have HX3 := Lib.hid x3
    have HB2 := Lib.hid hb2
    obtain ⟨i1, hi1⟩ : ∃ c : Nat, (i : Int) + 1 = (c : Int) := ⟨i + 1, by omega⟩
    have hw1 : IntKind.i64.wrap (i1 : Int) = (i1 : Int) := by rw [← hi1]; exact hw
    have hin : i1 = i + 1 := by omega
    have HIN := Lib.hid hin
    clear x3 hb2 HB hin hw
    go_upto_if 24 with fail
    go_cut [25] (fun _ wx => Hid (BX wx G3 95 #[.string klo, .string hI, .bool lI] ∧ Below W2.heap.size W2 wx))
    case first =>
      by_cases hlt : i1 < nk
      · have hlt' : (i1 : Int) < nk := by omega
        have hi1' : (0 : Int) ≤ i1 := by omega
        have e1 : wc.cell? ⟨gk, ok + i1, none⟩ = some (.string khi) := by
          have h1 := HC.out.1 i1 hlt
          rw [HIN.out] at h1 ⊢
          rw [HE.out.2.2.2.2.2.2.2.2.2.2]
          exact ((HX.out.trans (HB2.out.mono HX.out.size)).cell (p := ⟨gk, ok + (i + 1), none⟩) (World.block_lt_of_cell? w _ h1)).trans h1
        have xE := bx_put (bx_put HX3.out 1 (.string khi)) 2 (.bool false)
        have HXE := Lib.hid (show _ ∧ _ from ⟨xE, ((HB2.out.setCell (p := ⟨G3, 1, none⟩) (by rw [HG3.out]; exact Nat.le_refl _) (.string khi)).setCell (p := ⟨G3, 2, none⟩) (by rw [HG3.out]; exact Nat.le_refl _) (.bool false))⟩)
        have HHI := Lib.hid (show hI = khi ∧ lI = false from ⟨by rw [HI.out.1, if_pos (by have := HIN.out; omega)], by rw [HI.out.2, if_pos (by have := HIN.out; omega)]⟩)
        clear xE
        go_wp2
        go_meet
        rw [HHI.out.1, HHI.out.2]
        exact Lib.hid HXE.out
      · have hlt' : decide ((i1 : Int) < nk) = false := decide_eq_false (by omega)
        have HHI := Lib.hid (show hI = hi ∧ lI = la from ⟨by rw [HI.out.1, if_neg (by have := HIN.out; omega)], by rw [HI.out.2, if_neg (by have := HIN.out; omega)]⟩)
        clear y1 y2 f1 f2 k2 k3 k5
        go_wp2
        go_meet
        rw [HHI.out.1, HHI.out.2]
        exact Lib.hid ⟨HX3.out, HB2.out⟩
    case rest =>
      have x3 := hcut.out.1
      have hb2 := hcut.out.2
      have hbw := HX.out.trans (hb2.mono HX.out.size)
      have k7 := (HN2.out.below hb2).cell 7 rfl
      have t0 := (HN1.out.below hb2).cell 0 rfl
      have c0 : wc.cell? ⟨g, o + i, none⟩ = some (.int .i64 x) := by
        have h1 := HC.out.2 i hic
        rw [HE.out.2.2.2.2.2.2.2.2.1]
        exact (hbw.cell (p := ⟨g, o + i, none⟩) (World.block_lt_of_cell? w _ h1)).trans h1
      obtain ⟨v2, hv2, hl0⟩ := (HNM.out.keep hbw).lookAll (c := x) HWF.out
      obtain ⟨mak, mav, mac, mck, mcv, mcc, rfl, _⟩ := nod_open hv2
      rw [← HE.out.1, ← HE.out.2.1, ← HE.out.2.2.1, ← HE.out.2.2.2.1, ← HE.out.2.2.2.2.1, ← HE.out.2.2.2.2.2.1, ← HE.out.2.2.2.2.2.2.1, ← HE.out.2.2.2.2.2.2.2.1] at hl0
      have hl3 := (hl0 wc.drew (Below.refl _ _).drew).1
      have hxz := boxed_below wc (.cells #[.int .i64 0, .string ⟨#[]⟩, .string ⟨#[]⟩, .bool false, .int .i64 0, .slice none 0 0, .slice none 0 0, .slice none 0 0] 38)
      have HXZ := Lib.hid hxz
      have z7 := ((HN2.out.below hb2).below hxz).cell 7 rfl
      have zt := ((HN1.out.below hb2).below hxz).cell 0 rfl
      have zc := (hxz.cell (p := ⟨g, o + i, none⟩) (World.block_lt_of_cell? wc _ c0)).trans c0
      have hl4 := (hl0 _ hxz.drew).1
      clear hl0
      obtain ⟨G4, hG4⟩ : ∃ g, g = wc.heap.size := ⟨_, rfl⟩
      have HG4 := Lib.hid hG4
      have HH := Lib.hid (show _ ∧ _ ∧ _ from ⟨x3, hb2, hbw⟩)
      clear x3 hb2 hbw hv2 hxz hG4
      go_upto_region 4 with fail
      go_cut [8] (fun v8 wx => v8 = .pointer (some ⟨G4, 0, none⟩) ∧ Hid (BX wx G4 38 #[.int .i64 mlv, .string mlo, .string mhi, .bool mla, .int .i64 mnx, .slice mak mnk mck, .slice mav mnv mcv, .slice mac mnc mcc] ∧ Below wc.heap.size wc wx))
      case first =>
        rename_i J1 K1 hJ1 hK1
        go_region
        all_goals refine hK1 _ _ (Met.intro (hJ1 _ _ ?_))
        all_goals (repeat apply Exists.intro)
        all_goals refine ⟨?_, rfl⟩
        all_goals exact ⟨by rw [HG4.out], Lib.hid ⟨by rw [HG4.out]; exact BX.new wc 38 #[.int .i64 mlv, .string mlo, .string mhi, .bool mla, .int .i64 mnx, .slice mak mnk mck, .slice mav mnv mcv, .slice mac mnc mcc], (boxed_below wc (.cells #[.int .i64 mlv, .string mlo, .string mhi, .bool mla, .int .i64 mnx, .slice mak mnk mck, .slice mav mnv mcv, .slice mac mnc mcc] 38)).drew⟩⟩
      case rest =>
        obtain ⟨rfl, HB⟩ := hcut
        have s0 := (HH.out.1.below HB.out.2).cell 0 rfl
        have s1 := (HH.out.1.below HB.out.2).cell 1 rfl
        have s2 := (HH.out.1.below HB.out.2).cell 2 rfl
        have m1 := HB.out.1.cell 1 rfl
        have m2 := HB.out.1.cell 2 rfl
        have m3 := HB.out.1.cell 3 rfl
        have HXX := Lib.hid (HH.out.2.2.trans (HB.out.2.mono HH.out.2.2.size))
        clear hl3 hl4 k7 t0 c0 z7 zt zc HI HE HC HB HH
        by_cases h1 : klo = mlo
        · subst h1
          by_cases h2 : hI = mhi
          · subst h2
            cases lI <;> cases mla
            all_goals go_wp2
            all_goals go_ret
            all_goals exact ⟨by simp, HXX.out⟩
          · have h2' := (txt_not h2).1
            have HL2 := Lib.hid h2
            clear h2
            go_wp2
            go_ret
            exact ⟨by simp [HL2.out], HXX.out⟩
        · have h1' := (txt_not h1).1
          have HL1 := Lib.hid h1
          clear h1
          go_wp2
          go_ret
          exact ⟨by simp [HL1.out], HXX.out⟩
end Go.Proofs.Ytgaacoeggikbpaa
