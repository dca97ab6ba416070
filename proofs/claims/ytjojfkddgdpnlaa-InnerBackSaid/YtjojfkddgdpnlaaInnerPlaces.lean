/- inner.Over, the document's Over: a node over two others, or none. Condition: sizes that fit. The document's Over; what is over two others, as a node. Condition: sizes that fit. slices.Index exactly, inner.Place. Condition: sizes that fit. bowerref12.Place exactly. Condition: sizes that fit. -/
import Derived.Test.YtjojfkddgdpnlaaInnerPost
import Derived.Test.YtjojfkddgdpnlaaNodeLives
namespace Go.Proofs.Ytjojfkddgdpnlaa
open Go.RowKit

def Nod.one (level left : Int) : Nod := ⟨level, -1, ⟨#[]⟩, ⟨#[]⟩, true, [⟨#[]⟩], [], [left]⟩
set_option maxHeartbeats 4000000 in
set_option maxRecDepth 100000 in
theorem over_of (level left right : Int) (low : ByteArray) (b : Bool) (w : World) (hk : low.size ≤ 140737488355328) (hb : b = true ↔ (Nod.one level left).PostP low right 64) :
    Calls Try.prog 56 #[.int .i64 level, .int .i64 left, .string low, .int .i64 right] w fun e w' => GaveN w w' e b (Nod.or b ((Nod.one level left).post low right)) := by
  obtain ⟨w1, hw1⟩ : ∃ w1, w1 = w.alloc (.cells #[.int .i64 0, .string ⟨#[]⟩, .string ⟨#[]⟩, .bool false, .int .i64 0, .slice none 0 0, .slice none 0 0, .slice none 0 0] 26) := ⟨_, rfl⟩
  have HB : Hid (Below w.heap.size w w1) := Lib.hid (by rw [hw1]; exact boxed_below w _)
  have HR : Hid (NB w1 w.heap.size #[.int .i64 0, .string ⟨#[]⟩, .string ⟨#[]⟩, .bool false, .int .i64 0, .slice none 0 0, .slice none 0 0, .slice none 0 0]) := Lib.hid (by rw [hw1]; exact NB.new w _)
  have HW1 := Lib.hid hw1
  have HEM := Lib.hid empty_any
  have HPO := Lib.hid (fun ak ac ck cc W (hN : NdAt W ak none ac 1 ck 0 0 1 cc [⟨#[]⟩] [] [left]) => post_of level (-1) ⟨#[]⟩ ⟨#[]⟩ true ak none ac ck 0 cc [⟨#[]⟩] [] [left] low right 64 b W hN ⟨by decide, by decide, fun x hx => by simp at hx; subst hx; decide, by simp⟩ hk hb)
  clear hw1
  obtain ⟨nn, hnn⟩ : ∃ nn, nn = Nod.or b ((Nod.one level left).post low right) := ⟨_, rfl⟩
  rw [show (⟨level, -1, ⟨#[]⟩, ⟨#[]⟩, true, [⟨#[]⟩], [], [left]⟩ : Nod) = Nod.one level left from rfl, ← hnn] at HPO
  have HNN := Lib.hid hnn
  clear hnn hk hb
  go_enter Try.func56, Try.ntmps56
  go_wp2_with fail
  rw [← HW1.out]
  refine (HEM.out _).mono ?_
  rintro e w2 ⟨rfl, hb2⟩
  have HB2 := Lib.hid hb2
  clear hb2
  obtain ⟨W3, hW3⟩ : ∃ W, W = w2.alloc (.cells #[.int .i64 0, .string ⟨#[]⟩, .string ⟨#[]⟩, .bool true, .int .i64 (-1), .slice none 0 0, .slice none 0 0, .slice none 0 0] 26) := ⟨_, rfl⟩
  have HX : Hid (NB W3 w2.heap.size #[.int .i64 0, .string ⟨#[]⟩, .string ⟨#[]⟩, .bool true, .int .i64 (-1), .slice none 0 0, .slice none 0 0, .slice none 0 0]) := Lib.hid (by rw [hW3]; exact NB.new w2 _)
  have HB3 : Hid (Below w1.heap.size w1 W3) := Lib.hid (by rw [hW3]; exact HB2.out.alloc HB2.out.size _)
  have HZ3 : Hid (W3.heap.size = w2.heap.size + 1) := Lib.hid (by rw [hW3, World.size_alloc])
  have HW3 := Lib.hid hW3
  clear hW3
  go_upto_region 2 with fail
  rw [← HW3.out]
  obtain ⟨q0, q1, q2, q3, q4, q5, q6, q7⟩ := HX.out.cells
  have x0 := HX.out.frozen 0
  have x5 := HX.out.frozen 5
  have x7 := HX.out.frozen 7
  have hlt : w2.heap.size < W3.heap.size := by have := HZ3.out; omega
  go_upto_region 3 with fail
  refine @nameW (fun W => Code.wp _ _ _ _ W) _ ?_
  intro W6 hW6
  obtain ⟨WA, hWA⟩ : ∃ WA, WA = ((W3.setCell ⟨w2.heap.size, 0, none⟩ (.int .i64 level)).setCell ⟨w2.heap.size, 5, none⟩ (.slice (some ⟨W3.heap.size, 0, none⟩) 1 1)).setCell ⟨w2.heap.size, 7, none⟩ (.slice (some ⟨W3.heap.size + 1, 0, none⟩) 1 1) := ⟨_, rfl⟩
  rw [← hWA] at hW6
  have nA := ((HX.out.s0 (.int .i64 level)).s5 (.slice (some ⟨W3.heap.size, 0, none⟩) 1 1)).s7 (.slice (some ⟨W3.heap.size + 1, 0, none⟩) 1 1)
  rw [← hWA] at nA
  have zA : WA.heap.size = W3.heap.size := by rw [hWA]; simp [World.setCell]
  have bA : Below w1.heap.size w1 WA := by rw [hWA]; exact ((HB3.out.setCell (p := ⟨w2.heap.size, 0, none⟩) HB2.out.size _).setCell (p := ⟨w2.heap.size, 5, none⟩) HB2.out.size _).setCell (p := ⟨w2.heap.size, 7, none⟩) HB2.out.size _
  have c1 := boxed_below WA (.cells #[.string ⟨#[]⟩] 9)
  have c2 := boxed_below (WA.alloc (.cells #[.string ⟨#[]⟩] 9)) (.cells #[.int .i64 left] 3)
  have zB : (WA.alloc (.cells #[.string ⟨#[]⟩] 9)).heap.size = W3.heap.size + 1 := by rw [World.size_alloc, zA]
  have r1 : W6.heap[W3.heap.size]? = some (.cells #[.string ⟨#[]⟩] 9 (0, 0)) := by
    have h := heap_alloc_new WA (.cells #[.string ⟨#[]⟩] 9)
    rw [zA] at h
    rw [hW6]
    exact (c2.block W3.heap.size (by rw [zB]; omega)).trans h
  have r2 : W6.heap[W3.heap.size + 1]? = some (.cells #[.int .i64 left] 3 (0, 0)) := by
    have h := heap_alloc_new (WA.alloc (.cells #[.string ⟨#[]⟩] 9)) (.cells #[.int .i64 left] 3)
    rw [zB] at h
    rw [hW6]
    exact h
  have b6 : Below w1.heap.size w1 W6 := by rw [hW6]; exact (bA.trans (c1.mono bA.size)).trans (c2.mono (Nat.le_trans bA.size c1.size))
  have HNX : Hid (NB W6 w2.heap.size #[.int .i64 level, .string ⟨#[]⟩, .string ⟨#[]⟩, .bool true, .int .i64 (-1), .slice (some ⟨W3.heap.size, 0, none⟩) 1 1, .slice none 0 0, .slice (some ⟨W3.heap.size + 1, 0, none⟩) 1 1]) := Lib.hid (by rw [hW6]; exact (nA.below c1).below c2)
  have HND : Hid (NdAt W6 (some ⟨W3.heap.size, 0, none⟩) none (some ⟨W3.heap.size + 1, 0, none⟩) 1 1 0 0 1 1 [⟨#[]⟩] [] [left]) := Lib.hid ⟨Whole.rd (xs := [.string ⟨#[]⟩]) r1 (by simp), Rd.nil _, Whole.rd (xs := [.int .i64 left]) r2 (by simp)⟩
  have HB6 := Lib.hid b6
  clear hW6 hWA nA zA bA c1 c2 zB r1 r2 b6 q0 q1 q2 q3 q4 q5 q6 q7 x0 x5 x7
  obtain ⟨q0, q1, q2, q3, q4, q5, q6, q7⟩ := HNX.out.cells
  go_wp2_with fail
  refine (HPO.out _ _ 1 1 W6 HND.out).mono ?_
  rintro e w8 ⟨ak8, av8, ac8, ck8, cv8, cc8, rfl, hnd8, hb8, hf8⟩
  have H8 : Hid (GaveN W6 w8 (.returned (.tuple #[.agg #[.int .i64 nn.lv, .string nn.lo, .string nn.hi, .bool nn.la, .int .i64 nn.nx, .slice ak8 nn.ks.length ck8, .slice av8 nn.vs.length cv8, .slice ac8 nn.cs.length cc8], .bool b])) b nn) := Lib.hid ⟨ak8, av8, ac8, ck8, cv8, cc8, rfl, hnd8, hb8, hf8⟩
  have HB8 := Lib.hid (HB6.out.trans (hb8.mono HB6.out.size))
  have HR8 := Lib.hid (HR.out.below HB8.out)
  have hz1 : w.heap.size < w1.heap.size := lt_of_block HR.out
  clear hnd8 hb8 hf8 q0 q1 q2 q3 q4 q5 q6 q7
  obtain ⟨t0, t1, t2, t3, t4, t5, t6, t7⟩ := HR8.out.cells
  have f0 := HR8.out.frozen 0
  have f1 := HR8.out.frozen 1
  have f2 := HR8.out.frozen 2
  have f3 := HR8.out.frozen 3
  have f4 := HR8.out.frozen 4
  have f5 := HR8.out.frozen 5
  have f6 := HR8.out.frozen 6
  have f7 := HR8.out.frozen 7
  go_wp2
  refine bodyPost_ret (v := .tuple #[.agg #[.int .i64 nn.lv, .string nn.lo, .string nn.hi, .bool nn.la, .int .i64 nn.nx, .slice ak8 nn.ks.length ck8, .slice av8 nn.vs.length cv8, .slice ac8 nn.cs.length cc8], .bool b]) (by simp [results, Try.results56, go_sem, *]) rfl ?_
  have hfin := gave_stored H8.out (HB.out.trans (HB6.out.mono HB.out.size)) (Nat.le_refl _) (Nat.lt_of_lt_of_le hz1 HB6.out.size) [(0, .int .i64 nn.lv), (1, .string nn.lo), (2, .string nn.hi), (3, .bool nn.la), (4, .int .i64 nn.nx), (5, .slice ak8 nn.ks.length ck8), (6, .slice av8 nn.vs.length cv8), (7, .slice ac8 nn.cs.length cc8)]
  simp only [wr5] at hfin
  rw [← HNN.out]
  exact hfin
end Go.Proofs.Ytjojfkddgdpnlaa

namespace Go.Proofs.Ytjojfkddgdpnlaa
open Go.RowKit

def Nod.over (level left : Int) (low : ByteArray) (right : Int) : Nod := ⟨level, -1, ⟨#[]⟩, ⟨#[]⟩, true, [⟨#[]⟩, low], [], [left, right]⟩
theorem lss_nil_iff (low : ByteArray) : lss (ByteArray.mk #[]).data.toList low.data.toList = decide (low ≠ ⟨#[]⟩) := by
  by_cases h : low = ⟨#[]⟩
  · subst h; rfl
  · rw [decide_eq_true h]
    cases hl : low.data.toList with
    | nil => exact absurd (text_of hl) h
    | cons x xs => rfl
theorem one_post {level left right : Int} {low : ByteArray} (h : low ≠ ⟨#[]⟩) : (Nod.one level left).post low right = Nod.over level left low right := by
  have hp : placeF [(⟨#[]⟩ : ByteArray)] low = 1 := by
    unfold placeF
    rw [List.findIdx_cons, lss_nil_iff, decide_eq_true h]; rfl
  unfold Nod.post Nod.one Nod.over
  simp only
  rw [hp]
  rfl
theorem over_rise {level left right : Int} {low : ByteArray} (h : (Nod.over level left low right).Sound 64) : low ≠ ⟨#[]⟩ := by
  intro e
  subst e
  have := h.keys.rise 0 (by show 0 + 1 < 2; omega)
  cases this
theorem one_bad {level left right : Int} : ¬ ((Nod.one level left).post ⟨#[]⟩ right).Sound 64 := by
  intro h
  have := h.keys.rise 0 (by show 0 + 1 < (insF [(⟨#[]⟩ : ByteArray)] _ _).length; rw [insF_len (by exact List.findIdx_le_length)]; simp)
  have e : insF [(⟨#[]⟩ : ByteArray)] (placeF [(⟨#[]⟩ : ByteArray)] ⟨#[]⟩) ⟨#[]⟩ = [⟨#[]⟩, ⟨#[]⟩] := by kernel_rfl
  have h2 : Rises [(⟨#[]⟩ : ByteArray), ⟨#[]⟩] := by
    have h3 := h.keys.rise
    rw [show ((Nod.one level left).post ⟨#[]⟩ right).ks = insF [(⟨#[]⟩ : ByteArray)] (placeF [(⟨#[]⟩ : ByteArray)] ⟨#[]⟩) ⟨#[]⟩ from rfl, e] at h3
    exact h3
  have := h2 0 (by show 0 + 1 < 2; omega)
  cases this
theorem over_iff {level left right : Int} {low : ByteArray} : (Nod.one level left).PostP low right 64 ↔ 0 < level ∧ (Nod.over level left low right).Sound 64 := by
  constructor
  · rintro ⟨h1, _, h3⟩
    by_cases h : low = ⟨#[]⟩
    · subst h; exact absurd h3 one_bad
    · rw [one_post h] at h3
      exact ⟨h1.1, h3⟩
  · rintro ⟨h1, h2⟩
    have h := over_rise h2
    have hl : level ≠ 0 := by omega
    have he := h2.entries.inner hl
    refine ⟨⟨h1, ?_⟩, by omega, by rw [one_post h]; exact h2⟩
    refine ⟨h2.level, h2.range, ⟨by show ((1 : Nat) : Int) ≤ 64; omega, (fun i hi => absurd hi (by show ¬ i + 1 < 1; omega)), fun i hi => ?_⟩, ⟨fun g => absurd g hl, fun _ => ⟨rfl, by show (1 : Nat) ≠ 0; omega, rfl, rfl, fun i h3 h4 => absurd h4 (by show ¬ i < 1; omega), fun i hi => ?_⟩⟩⟩
    · have h0 : i = 0 := by have : i < 1 := hi; omega
      subst h0
      exact h2.keys.inn 0 (by show 0 < 2; omega)
    · have h0 : i = 0 := by have : i < 1 := hi; omega
      subst h0
      exact ⟨(he.2.2.2.2.2 0 (by show 0 < 2; omega)).1, fun j hj => by omega⟩
theorem over_or {level left right : Int} {low : ByteArray} {b : Bool} (hb : b = true ↔ (Nod.one level left).PostP low right 64) : Nod.or b ((Nod.one level left).post low right) = Nod.or b (Nod.over level left low right) := by
  cases b with
  | false => rfl
  | true => rw [one_post (over_rise (over_iff.1 (hb.1 rfl)).2)]

end Go.Proofs.Ytjojfkddgdpnlaa

namespace Go.Proofs.Ytjojfkddgdpnlaa
open Go.RowKit

/-- a is the first place of v in the row, or -1 where v is nowhere in it. -/
def FirstAt (n : Nat) (zs : List Int) (v a : Int) : Prop := (∃ i : Nat, a = i ∧ i < n ∧ ni zs i = v ∧ ∀ j, j < i → ni zs j ≠ v) ∨ (a = -1 ∧ ∀ j, j < n → ni zs j ≠ v)

set_option maxHeartbeats 1000000 in
set_option maxRecDepth 100000 in
theorem index_at (ao : Option Addr) (n c : Nat) (zs : List Int) (v : Int) (w : World) (hr : Rd w (.slice ao n c) (zs.map (Value.int .i64))) :
    Calls Try.prog 71 #[.slice ao n c, .int .i64 v] w fun e w' => ∃ a : Int, e = .returned (.int .i64 a) ∧ FirstAt n zs v a ∧ w = w' := by
  have HR := Lib.hid hr
  have hl := rd_len hr
  have hl2 := hl.2.1
  have hl3 := hl.2.2
  clear hr hl
  go_enter Try.func71, Try.ntmps71
  go_wp2
  go_loop [8] (fun s => ∃ i : Nat, s = .int .i64 i ∧ i ≤ n ∧ Hid (∀ j, j < i → ni zs j ≠ v)) (fun s => n - (intOf s).toNat)
  case atStart => exact ⟨0, rfl, Nat.zero_le _, Lib.hid (fun j hj => absurd hj (Nat.not_lt_zero _))⟩
  case round =>
    obtain ⟨i, rfl, hi, hall⟩ := hrel
    by_cases hlt : i < n
    · obtain ⟨g, o, rfl, hc⟩ := rd_at HR.out (0 : Int) i hlt
      have hc2 : w.cell? ⟨g, o + i, none⟩ = some (.int .i64 (ni zs i)) := hc i hlt
      have hlt' : (i : Int) < n := by omega
      clear hc
      by_cases he : ni zs i = v
      · have hd : (v == ni zs i) = true := by rw [he]; simp
        have HE : Hid (FirstAt n zs v (i : Int)) := Lib.hid (Or.inl ⟨i, rfl, hlt, he, hall.out⟩)
        clear he
        generalize ni zs i = x at *
        go_wp2
        go_ret
        exact ⟨(i : Int), rfl, HE.out, rfl⟩
      · have hd : (v == ni zs i) = false := beq_eq_false_iff_ne.2 (fun e => he e.symm)
        have HN : Hid (∀ j, j < i + 1 → ni zs j ≠ v) := Lib.hid (fun j hj => by
          by_cases e : j = i
          · subst e; exact he
          · exact hall.out j (by omega))
        clear he
        generalize ni zs i = x at *
        go_wp2
        go_round
        case rel => exact ⟨i + 1, by go_num, by omega, HN⟩
        case measure => simp [intOf]; omega
    · obtain rfl : i = n := by omega
      go_wp2
      go_ret
      exact ⟨-1, rfl, Or.inr ⟨rfl, hall.out⟩, rfl⟩
/-- What inner.Place answers where the first place is a. -/
def placeOf (b : Bool) (a : Int) : Int × Bool := if 0 ≤ a then (if b then (a, true) else (0, false)) else (0, false)
set_option maxHeartbeats 4000000 in
set_option maxRecDepth 100000 in
theorem place_of (lv nx : Int) (lo hi : ByteArray) (la : Bool) (ak av ac : Option Addr) (nk ck nv cv nc cc : Nat) (ks : List ByteArray) (vs : List Nat) (cs : List Int) (kid : Int) (b : Bool) (w : World) (hN : NdAt w ak av ac nk ck nv cv nc cc ks vs cs) (hf : Fit lo hi ks nk nv nc) (hb : b = true ↔ 0 < lv ∧ SoundP lv nx lo hi la nk nv nc ks cs 64) :
    Calls Try.prog 19 #[.agg #[.int .i64 lv, .string lo, .string hi, .bool la, .int .i64 nx, .slice ak nk ck, .slice av nv cv, .slice ac nc cc], .int .i64 kid] w fun e w' => ∃ a, FirstAt nc cs kid a ∧ e = .returned (.tuple #[.int .i64 (placeOf b a).1, .bool (placeOf b a).2]) ∧ Below w.heap.size w w' := by
  have HB := Lib.hid (boxed_below w (.cells #[.int .i64 lv, .string lo, .string hi, .bool la, .int .i64 nx, .slice ak nk ck, .slice av nv cv, .slice ac nc cc] 26))
  have HNB := Lib.hid (NB.new w #[.int .i64 lv, .string lo, .string hi, .bool la, .int .i64 nx, .slice ak nk ck, .slice av nv cv, .slice ac nc cc])
  have HI := Lib.hid (fun W (h : Below w.heap.size w W) => index_at ac nc cc cs kid W (hN.c.keep h))
  have HS := Lib.hid (fun W (h : Below w.heap.size w W) => isInner_of lv nx lo hi la ak av ac nk ck nv cv nc cc ks vs cs b W (hN.keep h) hf hb)
  obtain ⟨w1, hw1⟩ : ∃ w1, w1 = w.alloc (.cells #[.int .i64 lv, .string lo, .string hi, .bool la, .int .i64 nx, .slice ak nk ck, .slice av nv cv, .slice ac nc cc] 26) := ⟨_, rfl⟩
  have HB1 : Hid (Below w.heap.size w w1) := Lib.hid (by rw [hw1]; exact HB.out)
  have HN1 : Hid (NB w1 w.heap.size #[.int .i64 lv, .string lo, .string hi, .bool la, .int .i64 nx, .slice ak nk ck, .slice av nv cv, .slice ac nc cc]) := Lib.hid (by rw [hw1]; exact HNB.out)
  have HW1 := Lib.hid hw1
  obtain ⟨q0, q1, q2, q3, q4, q5, q6, q7⟩ := HN1.out.cells
  clear hN hf hb hw1
  go_enter Try.func19, Try.ntmps19
  go_wp2_with fail
  rw [← HW1.out]
  refine (HI.out _ HB1.out).mono ?_
  rintro e w2 ⟨a, rfl, ha, rfl⟩
  have HA := Lib.hid ha
  by_cases h0 : 0 ≤ a
  · have hlt : (a < 0) = False := by simp; omega
    have HB2 := HB1
    clear ha
    go_wp2_with fail
    refine (HS.out _ HB1.out).mono ?_
    rintro e w3 ⟨rfl, hb3⟩
    have HB3 := Lib.hid (HB1.out.trans (hb3.mono HB1.out.size))
    clear hb3
    cases b with
    | true =>
      go_wp2
      go_ret2
      exact ⟨a, HA.out, by simp [placeOf, h0], HB3.out⟩
    | false =>
      go_wp2
      go_ret2
      exact ⟨a, HA.out, by simp [placeOf, h0], HB3.out⟩
  · have hlt : a < 0 := by omega
    have hq : placeOf b a = (0, false) := if_neg h0
    clear ha
    go_wp2
    go_ret2
    exact ⟨a, HA.out, by rw [hq]; rfl, HB1.out⟩

set_option maxHeartbeats 4000000 in
set_option maxRecDepth 100000 in
/-- node.Kid, where the place is known. -/
theorem kid_yes (lv nx : Int) (lo hi : ByteArray) (la : Bool) (ak av ac : Option Addr) (nk ck nv cv nc cc : Nat) (ks : List ByteArray) (vs : List Nat) (cs : List Int) (k : ByteArray) (j : Nat) (w : World) (hN : NdAt w ak av ac nk ck nv cv nc cc ks vs cs) (h0 : lv ≠ 0) (hj : j < nc) (hk : k.size ≤ 140737488355328) (hx : ∀ x ∈ ks, x.size ≤ 140737488355328) (hn : nk ≤ 274877906944) (hr : Rises ks) (he : ∀ a, Edge ks.length a (pFloor ks k) → a = j + 1) :
    Calls Try.prog 34 #[.agg #[.int .i64 lv, .string lo, .string hi, .bool la, .int .i64 nx, .slice ak nk ck, .slice av nv cv, .slice ac nc cc], .string k] w fun e w' => e = .returned (.tuple #[.int .i64 (ni cs j), .bool true]) ∧ Below w.heap.size w w' := by
  have HB := Lib.hid (boxed_below w (.cells #[.int .i64 lv, .string lo, .string hi, .bool la, .int .i64 nx, .slice ak nk ck, .slice av nv cv, .slice ac nc cc] 26))
  have HNB := Lib.hid (NB.new w #[.int .i64 lv, .string lo, .string hi, .bool la, .int .i64 nx, .slice ak nk ck, .slice av nv cv, .slice ac nc cc])
  have HLN := Lib.hid (rd_len hN.k).1
  have HF : Hid (∀ W, Below w.heap.size w W → Calls Try.prog 94 #[.slice ak nk ck, .string k] W fun e w' => e = .returned (.int .i64 (j : Int)) ∧ Below W.heap.size W w') := Lib.hid (fun W hb => by
    refine (floor_any (.slice ak nk ck) k ks W (hN.k.keep hb) hk hx (by have := HLN.out; omega) hr).mono ?_
    rintro e w' ⟨a, rfl, hE, hB⟩
    have := he a hE
    subst this
    exact ⟨by rw [show ((j + 1 : Nat) : Int) - 1 = (j : Int) by omega], hB⟩)
  have HK := Lib.hid (fun W (hb : Below w.heap.size w W) => kidAt_yes lv nx lo hi la ak av ac nk ck nv cv nc cc j cs W (hN.c.keep hb) h0 hj)
  obtain ⟨w1, hw1⟩ : ∃ w1, w1 = w.alloc (.cells #[.int .i64 lv, .string lo, .string hi, .bool la, .int .i64 nx, .slice ak nk ck, .slice av nv cv, .slice ac nc cc] 26) := ⟨_, rfl⟩
  have HC : Hid (∀ V, Below w1.heap.size w1 V → (V.cell? ⟨w.heap.size, 0, none⟩ = some (.int .i64 lv) ∧ V.cell? ⟨w.heap.size, 1, none⟩ = some (.string lo) ∧ V.cell? ⟨w.heap.size, 2, none⟩ = some (.string hi) ∧ V.cell? ⟨w.heap.size, 3, none⟩ = some (.bool la) ∧ V.cell? ⟨w.heap.size, 4, none⟩ = some (.int .i64 nx) ∧ V.cell? ⟨w.heap.size, 5, none⟩ = some (.slice ak nk ck) ∧ V.cell? ⟨w.heap.size, 6, none⟩ = some (.slice av nv cv) ∧ V.cell? ⟨w.heap.size, 7, none⟩ = some (.slice ac nc cc)) ∧ Below w1.heap.size w1 V) := Lib.hid (fun V hV => ⟨(NB.below (V := w1) (by rw [hw1]; exact HNB.out) hV).cells, hV⟩)
  have HB1 : Hid (Below w.heap.size w w1) := Lib.hid (by rw [hw1]; exact HB.out)
  have HW1 := Lib.hid hw1
  have hS0 := HC.out w1.drew (Below.refl _ _).drew
  clear hN h0 hk hx hn hr hw1 he hj
  go_enter Try.func34, Try.ntmps34
  go_wp2
  rw [← HW1.out]
  first | (go_region_held_law (fun V => (V.cell? ⟨w.heap.size, 0, none⟩ = some (.int .i64 lv) ∧ V.cell? ⟨w.heap.size, 1, none⟩ = some (.string lo) ∧ V.cell? ⟨w.heap.size, 2, none⟩ = some (.string hi) ∧ V.cell? ⟨w.heap.size, 3, none⟩ = some (.bool la) ∧ V.cell? ⟨w.heap.size, 4, none⟩ = some (.int .i64 nx) ∧ V.cell? ⟨w.heap.size, 5, none⟩ = some (.slice ak nk ck) ∧ V.cell? ⟨w.heap.size, 6, none⟩ = some (.slice av nv cv) ∧ V.cell? ⟨w.heap.size, 7, none⟩ = some (.slice ac nc cc)) ∧ Below w1.heap.size w1 V) (first | (with_reducible exact hS0) | exact HC.out _ hA1 | exact HC.out _ hA2 | assumption) (first | (go_at_call 94; refine (HF.out _ (HB1.out.trans ((Below.refl w1.heap.size w1).drew.mono HB1.out.size))).mono ?_; rintro e wa ⟨rfl, hb1⟩; have hA1 := (Below.refl w1.heap.size w1).drew.trans (hb1.mono (Nat.le_refl _))) | (go_at_call 93; refine (HK.out _ (HB1.out.trans (hA1.mono HB1.out.size))).mono ?_; rintro e wb ⟨rfl, hb2⟩; have hA2 := hA1.trans (hb2.mono hA1.size)))) | fail
  all_goals
    go_wp2
    go_ret2
    exact ⟨rfl, HB1.out.trans (hA2.mono HB1.out.size)⟩

end Go.Proofs.Ytjojfkddgdpnlaa

namespace Go.Proofs.Ytjojfkddgdpnlaa
open Go.RowKit

theorem place_none {n : Nat} {zs : List Int} {v a : Int} {b : Bool} (h : FirstAt n zs v a) (hn : ∀ j, j < n → ni zs j ≠ v) : placeOf b a = (0, false) := by
  rcases h with ⟨i, rfl, hi, he, _⟩ | ⟨rfl, _⟩
  · exact absurd he (hn i hi)
  · rfl
theorem FirstAt.one {n : Nat} {zs : List Int} {v a c : Int} (h : FirstAt n zs v a) (k : FirstAt n zs v c) : a = c := by
  rcases h with ⟨i, rfl, hi, he, hn⟩ | ⟨rfl, hn⟩ <;> rcases k with ⟨j, rfl, hj, he2, hn2⟩ | ⟨rfl, hn2⟩
  · rcases Nat.lt_trichotomy i j with g | g | g
    · exact absurd he (hn2 i g)
    · rw [g]
    · exact absurd he2 (hn j g)
  · exact absurd he (hn2 i hi)
  · exact absurd he2 (hn j hj)
  · rfl
theorem first_is (n : Nat) (zs : List Int) (v : Int) : ∃ a, FirstAt n zs v a := by
  induction n with
  | zero => exact ⟨-1, Or.inr ⟨rfl, fun j hj => absurd hj (Nat.not_lt_zero _)⟩⟩
  | succ n ih =>
    obtain ⟨a, ⟨i, rfl, hi, he, hn⟩ | ⟨rfl, hn⟩⟩ := ih
    · exact ⟨i, Or.inl ⟨i, rfl, by omega, he, hn⟩⟩
    · by_cases h : ni zs n = v
      · exact ⟨n, Or.inl ⟨n, rfl, by omega, h, hn⟩⟩
      · exact ⟨-1, Or.inr ⟨rfl, fun j hj => by
          by_cases e : j = n
          · subst e; exact h
          · exact hn j (by omega)⟩⟩

set_option maxHeartbeats 4000000 in
set_option maxRecDepth 100000 in
theorem rplace_of (lv nx : Int) (lo hi : ByteArray) (la : Bool) (ak av ac : Option Addr) (nk ck nv cv nc cc : Nat) (ks : List ByteArray) (vs : List Nat) (cs : List Int) (kid : Int) (b : Bool) (w : World) (hN : NdAt w ak av ac nk ck nv cv nc cc ks vs cs) (hf : Fit lo hi ks nk nv nc) (hb : b = true ↔ 0 < lv ∧ SoundP lv nx lo hi la nk nv nc ks cs 64) :
    Calls Try.prog 20 #[.agg #[.int .i64 lv, .string lo, .string hi, .bool la, .int .i64 nx, .slice ak nk ck, .slice av nv cv, .slice ac nc cc], .int .i64 kid] w fun e w' => ∃ a, FirstAt nc cs kid a ∧ e = .returned (.tuple #[.int .i64 (placeOf b a).1, .bool (placeOf b a).2]) ∧ Below w.heap.size w w' := by
  have HB := Lib.hid (boxed_below w (.cells #[.int .i64 lv, .string lo, .string hi, .bool la, .int .i64 nx, .slice ak nk ck, .slice av nv cv, .slice ac nc cc] 26))
  have HNB := Lib.hid (NB.new w #[.int .i64 lv, .string lo, .string hi, .bool la, .int .i64 nx, .slice ak nk ck, .slice av nv cv, .slice ac nc cc])
  have hcn := hf.n
  have HRC := Lib.hid (fun W (h : Below w.heap.size w W) => hN.c.keep h)
  have HS := Lib.hid (fun W (h : Below w.heap.size w W) => rinner_of lv nx lo hi la ak av ac nk ck nv cv nc cc ks vs cs b W (hN.keep h) hf hb)
  obtain ⟨w1, hw1⟩ : ∃ w1, w1 = w.alloc (.cells #[.int .i64 lv, .string lo, .string hi, .bool la, .int .i64 nx, .slice ak nk ck, .slice av nv cv, .slice ac nc cc] 26) := ⟨_, rfl⟩
  have HB1 : Hid (Below w.heap.size w w1) := Lib.hid (by rw [hw1]; exact HB.out)
  have HN1 : Hid (NB w1 w.heap.size #[.int .i64 lv, .string lo, .string hi, .bool la, .int .i64 nx, .slice ak nk ck, .slice av nv cv, .slice ac nc cc]) := Lib.hid (by rw [hw1]; exact HNB.out)
  have HW1 := Lib.hid hw1
  obtain ⟨a, ha⟩ := first_is nc cs kid
  have HA := Lib.hid ha
  clear hN hf hb hw1 ha
  go_enter Try.func20, Try.ntmps20
  go_upto_region 2 with fail
  rw [← HW1.out]
  go_loopw [6] (fun s wr => ∃ i : Nat, s = .int .i64 i ∧ i ≤ nc ∧ Hid (Below w1.heap.size w1 wr) ∧ Hid (∀ j, j < i → ni cs j ≠ kid)) (fun s _ => nc - (intOf s).toNat)
  case atStart => exact ⟨0, rfl, Nat.zero_le _, Lib.hid (Below.refl _ _), Lib.hid (fun j hj => absurd hj (Nat.not_lt_zero _))⟩
  case round =>
    obtain ⟨i, rfl, hi, hB, hall⟩ := hrel
    have HE := Lib.hid (HB1.out.trans (hB.out.mono HB1.out.size))
    obtain ⟨q0, q1, q2, q3, q4, q5, q6, q7⟩ := (HN1.out.below hB.out).cells
    by_cases hlt : i < nc
    · have hlt' : (i : Int) < nc := by omega
      have HS1 := Lib.hid (HS.out wr HE.out)
      clear HS
      go_wp2_with fail
      refine HS1.out.mono ?_
      rintro e w3 ⟨rfl, hb3⟩
      have HB3 := Lib.hid (hB.out.trans (hb3.mono hB.out.size))
      have HE3 := Lib.hid (HE.out.trans (hb3.mono HE.out.size))
      clear hb3 q0 q1 q2 q3 q4 q5 q6 q7
      obtain ⟨q0, q1, q2, q3, q4, q5, q6, q7⟩ := (HN1.out.below HB3.out).cells
      cases b with
      | false =>
        have hq : placeOf false a = (0, false) := by unfold placeOf; split <;> rfl
        clear HS1
        go_wp2
        go_ret2
        exact ⟨a, HA.out, by rw [hq]; rfl, HE3.out⟩
      | true =>
        obtain ⟨g, o, rfl, hc⟩ := rd_at (HRC.out w3 HE3.out) (0 : Int) i hlt
        have hc2 : w3.cell? ⟨g, o + i, none⟩ = some (.int .i64 (ni cs i)) := hc i hlt
        clear hc HS1 HRC
        by_cases he : ni cs i = kid
        · have hd : (ni cs i == kid) = true := by rw [he]; simp
          have HF : Hid (a = (i : Int)) := Lib.hid (HA.out.one (Or.inl ⟨i, rfl, hlt, he, hall.out⟩))
          clear he
          generalize ni cs i = x at *
          go_wp2
          go_ret2
          exact ⟨a, HA.out, by rw [HF.out, show placeOf true (i : Int) = ((i : Int), true) from if_pos (by omega)]; rfl, HE3.out⟩
        · have hd : (ni cs i == kid) = false := beq_eq_false_iff_ne.2 he
          have HN : Hid (∀ j, j < i + 1 → ni cs j ≠ kid) := Lib.hid (fun j hj => by
            by_cases e : j = i
            · subst e; exact he
            · exact hall.out j (by omega))
          clear he
          generalize ni cs i = x at *
          go_wp2
          go_roundw
          case rel => exact ⟨i + 1, by go_num, by omega, Lib.hid HB3.out, HN⟩
          case measure => simp [intOf]; omega
    · obtain rfl : i = nc := by omega
      have HQ : Hid (placeOf b a = (0, false)) := Lib.hid (place_none HA.out hall.out)
      clear HS HRC
      go_wp2
      go_ret2
      exact ⟨a, HA.out, by rw [HQ.out]; rfl, HE.out⟩
end Go.Proofs.Ytjojfkddgdpnlaa
