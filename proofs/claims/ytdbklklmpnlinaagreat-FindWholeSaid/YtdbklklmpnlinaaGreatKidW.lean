/- node.Kid, node.KidBelow of any node: a kid of it, or none; of an inner one whose keys rise the document's. Conditions: sizes that fit. -/
import Derived.Test.YtdbklklmpnlinaaGreatFindW
import Derived.Test.YtdbklklmpnlinaaGreatNodeKids
namespace Go.Proofs.YtdbklklmpnlinaaGreat
open Go.RowKit

def FloorIn (w w' : World) (e : Ending) (xs : List ByteArray) : Prop := ∃ at_ : Nat, e = .returned (.int .i64 ((at_ : Int) - 1)) ∧ at_ ≤ xs.length ∧ Below w.heap.size w w'
set_option maxHeartbeats 2000000 in
set_option maxRecDepth 100000 in
theorem searchFloor_in (b1 b2 n : Nat) (p : Nat → Bool) (w : World) (hn : n ≤ 274877906944)
    (hf : ∀ W i, i < n → Drew w W → Calls Tryz.prog 147 #[.int .i64 i, .pointer (some ⟨b1, 0, none⟩), .pointer (some ⟨b2, 0, none⟩)] W fun e w' => e = .returned (.bool (p i)) ∧ Drew W w')
    :
    Calls Tryz.prog 146 #[.int .i64 n, .func (.func 147) #[] #[.pointer (some ⟨b1, 0, none⟩), .pointer (some ⟨b2, 0, none⟩)]] w fun e w' => FoundIn w w' e n := by
  have HF := Lib.hid hf
  clear hf
  go_enter Tryz.func146, Tryz.ntmps146
  go_wp2
  go_loopg [5, 6] n (fun kx s5 s6 wr => ∃ lo hi : Nat, s5 = .int .i64 lo ∧ s6 = .int .i64 hi ∧ lo ≤ hi ∧ hi ≤ n ∧ hi - lo ≤ kx ∧ Drew w wr)
  case atStart => exact ⟨0, n, rfl, rfl, Nat.zero_le _, Nat.le_refl _, by omega, Drew.refl w⟩
  case round =>
    obtain ⟨lo, hi, rfl, rfl, hlh, hin, hg, hd⟩ := hrel
    by_cases hlt : lo < hi
    · have hc := HF.out wr ((lo + hi) / 2) (by omega) hd
      rw [show (((lo + hi) / 2 : Nat) : Int) = ((lo : Int) + (hi : Int)) / 2 by omega] at hc
      cases hp : p ((lo + hi) / 2) with
      | false =>
        rw [hp] at hc
        have HP := Lib.hid hp
        have HC := Lib.hid hc
        clear hp hc
        go_wp2_with fail
        refine HC.out.mono ?_
        rintro e w1 ⟨rfl, hd1⟩
        go_wp2
        go_roundg (hi - ((lo + hi) / 2 + 1))
        case measure => omega
        case rel =>
          refine ⟨(lo + hi) / 2 + 1, hi, by rw [show ((lo : Int) + (hi : Int)) / 2 + 1 = (((lo + hi) / 2 + 1 : Nat) : Int) by omega], rfl, by omega, hin, Nat.le_refl _, hd.trans hd1⟩
      | true =>
        rw [hp] at hc
        have HP := Lib.hid hp
        have HC := Lib.hid hc
        clear hp hc
        go_wp2_with fail
        refine HC.out.mono ?_
        rintro e w1 ⟨rfl, hd1⟩
        go_wp2
        go_roundg ((lo + hi) / 2 - lo)
        case measure => omega
        case rel => exact ⟨lo, (lo + hi) / 2, rfl, by rw [show ((lo : Int) + (hi : Int)) / 2 = (((lo + hi) / 2 : Nat) : Int) by omega], by omega, by omega, Nat.le_refl _, hd.trans hd1⟩
    · obtain rfl : hi = lo := by omega
      go_wp2
      go_ret
      exact ⟨hi, rfl, hin, hd⟩

set_option maxHeartbeats 2000000 in
set_option maxRecDepth 100000 in
theorem floor_in (v : Value) (k : ByteArray) (xs : List ByteArray) (w : World) (hr : Rd w v (xs.map Value.string)) (hk : k.size ≤ 140737488355328) (hx : ∀ x ∈ xs, x.size ≤ 140737488355328) (hn : xs.length ≤ 274877906944) :
    Calls Tryz.prog 88 #[v, .string k] w fun e w' => FloorIn w w' e xs := by
  have hB := boxes_new w v k xs 32 9 hr hk hx
  have hS := searchFloor_in w.heap.size (w.heap.size + 1) xs.length (pFloor xs k) ((w.alloc (.cells #[v] 32)).alloc (.cells #[.string k] 9)) hn (fun W i hi hd => by
    have := closFloor_any w.heap.size (w.heap.size + 1) i v k xs W (hB.drew hd) hi
    unfold pFloor
    rw [nth_eq hi]
    exact this)
  obtain ⟨ao, c, hv⟩ := hr.open
  rw [List.length_map] at hv
  subst hv
  have HS := Lib.hid hS
  have k1 := hB.row
  clear hB hS hr hx
  generalize hL : xs.length = n at *
  have HLen := Lib.hid hL
  clear hL
  go_enter Tryz.func88, Tryz.ntmps88
  go_wp2_with fail
  refine HS.out.mono ?_
  rintro e w2 ⟨at_, rfl, hE, hd⟩
  have HE := Lib.hid hE
  have han := hE
  clear hE
  go_wp2
  go_ret
  exact ⟨at_, rfl, by rw [HLen.out]; exact HE.out, (boxes_below _ _ _).trans (hd.below0 _)⟩

set_option maxHeartbeats 2000000 in
theorem below_in (v : Value) (k : ByteArray) (xs : List ByteArray) (w : World) (hr : Rd w v (xs.map Value.string)) (hk : k.size ≤ 140737488355328) (hx : ∀ x ∈ xs, x.size ≤ 140737488355328) (hn : xs.length ≤ 274877906944) :
    Calls Tryz.prog 95 #[v, .string k] w fun e w' => FloorIn w w' e xs := by
  have HF := Lib.hid (find_in v k xs w hr hk hx hn)
  obtain ⟨ao, c, hv⟩ := hr.open
  rw [List.length_map] at hv
  subst hv
  clear hr hx
  go_enter Tryz.func95, Tryz.ntmps95
  go_wp2_with fail
  refine HF.out.mono ?_
  rintro e w2 ⟨at_, is, rfl, hE, _, hb⟩
  have HE := Lib.hid hE
  have han := hE
  clear hE
  go_wp2
  go_ret
  exact ⟨at_, rfl, HE.out, hb⟩


/-- The last place of which it holds. -/
def lastI (p : Nat → Bool) : Nat → Option Nat
  | 0 => none
  | n + 1 => if p n = true then some n else lastI p n
theorem lastI_none {p : Nat → Bool} {n : Nat} (h : ∀ i, i < n → p i = false) : lastI p n = none := by
  induction n with
  | zero => rfl
  | succ n ih =>
    unfold lastI
    rw [if_neg (by rw [h n (by omega)]; simp)]
    exact ih (fun i hi => h i (by omega))
theorem lastI_some {p : Nat → Bool} {n a : Nat} (ha : a < n) (hp : p a = true) (h : ∀ i, a < i → i < n → p i = false) : lastI p n = some a := by
  induction n with
  | zero => omega
  | succ n ih =>
    unfold lastI
    by_cases e : a = n
    · subst e
      rw [if_pos hp]
    · rw [if_neg (by rw [h n (by omega) (by omega)]; simp)]
      exact ih (by omega) (fun i h1 h2 => h i h1 (by omega))
theorem lastI_edge {q : Nat → Bool} {n a : Nat} (h : Edge n a q) : lastI (fun i => !q i) n = if a = 0 then none else some (a - 1) := by
  by_cases ha : a = 0
  · rw [if_pos ha]
    exact lastI_none (fun i hi => by rw [h.2.2 i (by omega) hi]; rfl)
  · rw [if_neg ha]
    exact lastI_some (by have := h.1; omega) (by rw [h.2.1 (a - 1) (by omega)]; rfl) (fun i h1 h2 => by rw [h.2.2 i (by omega) h2]; rfl)
/-- Is it for a text (below it) that a key stands where the kid may be? -/
def kidP (below : Bool) (ks : List ByteArray) (k : ByteArray) (i : Nat) : Bool := if below then !pFind ks k i else !pFloor ks k i
/-- The kid for a text, or below it: the document's. -/
def kidF (below : Bool) (ks : List ByteArray) (cs : List Int) (k : ByteArray) : Option Int := (lastI (kidP below ks k) (min ks.length cs.length)).map (ni cs)
/-- What Kid tells: a kid, or none; as the document says, of an inner node as it should be. -/
def KidSays (w w' : World) (e : Ending) (lv : Int) (ks : List ByteArray) (cs : List Int) (k : ByteArray) (below : Bool) : Prop :=
  ∃ (x : Int) (b : Bool), e = .returned (.tuple #[.int .i64 x, .bool b]) ∧ (b = true → ∃ j, j < cs.length ∧ x = ni cs j) ∧ (lv ≠ 0 → cs.length = ks.length → Rises ks → kidF below ks cs k = if b then some x else none) ∧ Below w.heap.size w w'
theorem kidAt_w (lv nx : Int) (lo hi : ByteArray) (la : Bool) (ak av ac : Option Addr) (nk ck nv cv nc cc : Nat) (t : Int) (cs : List Int) (w : World) (hr : Rd w (.slice ac nc cc) (cs.map (Value.int .i64))) :
    Calls Tryz.prog 87 #[.agg #[.int .i64 lv, .string lo, .string hi, .bool la, .int .i64 nx, .slice ak nk ck, .slice av nv cv, .slice ac nc cc], .int .i64 t] w fun e w' => ∃ (x : Int) (b : Bool), e = .returned (.tuple #[.int .i64 x, .bool b]) ∧ (b = true → ∃ j : Nat, j < cs.length ∧ t = j ∧ x = ni cs j) ∧ (b = false → lv = 0 ∨ t < 0 ∨ (cs.length : Int) ≤ t) ∧ Below w.heap.size w w' := by
  have hl := (rd_len hr).1
  by_cases ht : lv = 0 ∨ t < 0 ∨ (nc : Int) ≤ t
  · refine (kidAt_no lv nx lo hi la ak av ac nk ck nv cv nc cc t w ht).mono ?_
    rintro e w' ⟨rfl, hb⟩
    exact ⟨_, _, rfl, fun h => (by cases h), fun _ => by rw [hl]; exact ht, hb⟩
  · obtain ⟨j, rfl⟩ : ∃ j : Nat, t = j := ⟨t.toNat, by omega⟩
    refine (kidAt_yes lv nx lo hi la ak av ac nk ck nv cv nc cc j cs w hr (by omega) (by omega)).mono ?_
    rintro e w' ⟨rfl, hb⟩
    exact ⟨_, _, rfl, fun _ => ⟨j, by omega, rfl, rfl⟩, fun h => (by cases h), hb⟩
theorem kid_says {lv : Int} {ks : List ByteArray} {cs : List Int} {k : ByteArray} {below : Bool} {q : Nat → Bool} {a : Nat} {x : Int} {b : Bool} (hq : ∀ i, kidP below ks k i = !q i) (hE : Rises ks → Edge ks.length a q)
    (h1 : b = true → ∃ j : Nat, j < cs.length ∧ (a : Int) - 1 = j ∧ x = ni cs j) (h2 : b = false → lv = 0 ∨ (a : Int) - 1 < 0 ∨ (cs.length : Int) ≤ (a : Int) - 1) (h0 : lv ≠ 0) (hl : cs.length = ks.length) (hr : Rises ks) : kidF below ks cs k = if b then some x else none := by
  have hE' := hE hr
  have e1 : kidP below ks k = fun i => !q i := funext hq
  unfold kidF
  rw [e1, hl, Nat.min_self, lastI_edge hE']
  cases b with
  | true =>
    obtain ⟨j, hj, ha, hx⟩ := h1 rfl
    rw [if_neg (by omega), if_pos rfl, hx, show a - 1 = j by omega]
    rfl
  | false =>
    have := h2 rfl
    have := hE'.1
    rw [if_pos (by omega), if_neg (by simp)]
    rfl

set_option maxHeartbeats 4000000 in
set_option maxRecDepth 100000 in
theorem kid_w (lv nx : Int) (lo hi : ByteArray) (la : Bool) (ak av ac : Option Addr) (nk ck nv cv nc cc : Nat) (ks : List ByteArray) (vs : List Nat) (cs : List Int) (k : ByteArray) (w : World) (hN : NdAt w ak av ac nk ck nv cv nc cc ks vs cs) (hk : k.size ≤ 140737488355328) (hx : ∀ x ∈ ks, x.size ≤ 140737488355328) (hn : nk ≤ 274877906944) :
    Calls Tryz.prog 45 #[.agg #[.int .i64 lv, .string lo, .string hi, .bool la, .int .i64 nx, .slice ak nk ck, .slice av nv cv, .slice ac nc cc], .string k] w fun e w' => KidSays w w' e lv ks cs k false := by
  have HB := Lib.hid (boxed_below w (.cells #[.int .i64 lv, .string lo, .string hi, .bool la, .int .i64 nx, .slice ak nk ck, .slice av nv cv, .slice ac nc cc] 36))
  have HNB := Lib.hid (NB.new w #[.int .i64 lv, .string lo, .string hi, .bool la, .int .i64 nx, .slice ak nk ck, .slice av nv cv, .slice ac nc cc])
  have HLN := Lib.hid (rd_len hN.k).1
  have hF : ∀ W, Below w.heap.size w W → Calls Tryz.prog 88 #[.slice ak nk ck, .string k] W fun e w' => ∃ a : Nat, e = .returned (.int .i64 ((a : Int) - 1)) ∧ (Rises ks → Edge ks.length a (pFloor ks k)) ∧ Below W.heap.size W w' := by
    intro W hb
    by_cases hr : Rises ks
    · refine (floor_any (.slice ak nk ck) k ks W (hN.k.keep hb) hk hx (by have := HLN.out; omega) hr).mono ?_
      rintro e w' ⟨a, rfl, hE, hb2⟩
      exact ⟨a, rfl, fun _ => hE, hb2⟩
    · refine (floor_in (.slice ak nk ck) k ks W (hN.k.keep hb) hk hx (by have := HLN.out; omega)).mono ?_
      rintro e w' ⟨a, rfl, _, hb2⟩
      exact ⟨a, rfl, fun h => absurd h hr, hb2⟩
  have HF := Lib.hid hF
  have HK := Lib.hid (fun t W (hb : Below w.heap.size w W) => kidAt_w lv nx lo hi la ak av ac nk ck nv cv nc cc t cs W (hN.c.keep hb))
  obtain ⟨w1, hw1⟩ : ∃ w1, w1 = w.alloc (.cells #[.int .i64 lv, .string lo, .string hi, .bool la, .int .i64 nx, .slice ak nk ck, .slice av nv cv, .slice ac nc cc] 36) := ⟨_, rfl⟩
  have HC : Hid (∀ V, Below w1.heap.size w1 V → (V.cell? ⟨w.heap.size, 0, none⟩ = some (.int .i64 lv) ∧ V.cell? ⟨w.heap.size, 1, none⟩ = some (.string lo) ∧ V.cell? ⟨w.heap.size, 2, none⟩ = some (.string hi) ∧ V.cell? ⟨w.heap.size, 3, none⟩ = some (.bool la) ∧ V.cell? ⟨w.heap.size, 4, none⟩ = some (.int .i64 nx) ∧ V.cell? ⟨w.heap.size, 5, none⟩ = some (.slice ak nk ck) ∧ V.cell? ⟨w.heap.size, 6, none⟩ = some (.slice av nv cv) ∧ V.cell? ⟨w.heap.size, 7, none⟩ = some (.slice ac nc cc)) ∧ Below w1.heap.size w1 V) := Lib.hid (fun V hV => ⟨(NB.below (V := w1) (by rw [hw1]; exact HNB.out) hV).cells, hV⟩)
  have HB1 : Hid (Below w.heap.size w w1) := Lib.hid (by rw [hw1]; exact HB.out)
  have HW1 := Lib.hid hw1
  have hS0 := HC.out w1.drew (Below.refl _ _).drew
  clear hN hk hx hn hw1 hF
  go_enter Tryz.func45, Tryz.ntmps45
  go_wp2
  rw [← HW1.out]
  first | (go_region_held_law (fun V => (V.cell? ⟨w.heap.size, 0, none⟩ = some (.int .i64 lv) ∧ V.cell? ⟨w.heap.size, 1, none⟩ = some (.string lo) ∧ V.cell? ⟨w.heap.size, 2, none⟩ = some (.string hi) ∧ V.cell? ⟨w.heap.size, 3, none⟩ = some (.bool la) ∧ V.cell? ⟨w.heap.size, 4, none⟩ = some (.int .i64 nx) ∧ V.cell? ⟨w.heap.size, 5, none⟩ = some (.slice ak nk ck) ∧ V.cell? ⟨w.heap.size, 6, none⟩ = some (.slice av nv cv) ∧ V.cell? ⟨w.heap.size, 7, none⟩ = some (.slice ac nc cc)) ∧ Below w1.heap.size w1 V) (first | (with_reducible exact hS0) | exact HC.out _ hA1 | exact HC.out _ hA2 | assumption) (first | (go_at_call 88; refine (HF.out _ (HB1.out.trans ((Below.refl w1.heap.size w1).drew.mono HB1.out.size))).mono ?_; rintro e wa ⟨a1, rfl, hE1, hb1⟩; have hA1 := (Below.refl w1.heap.size w1).drew.trans (hb1.mono (Nat.le_refl _))) | (go_at_call 87; refine (HK.out _ _ (HB1.out.trans (hA1.mono HB1.out.size))).mono ?_; rintro e wb ⟨x1, b1, rfl, hx1, hx2, hb2⟩; have hA2 := hA1.trans (hb2.mono hA1.size)))) | fail
  all_goals
    go_wp2
    go_ret2
    refine ⟨x1, b1, rfl, fun hb => ?_, kid_says (q := pFloor ks k) (a := a1) (fun i => rfl) hE1 hx1 hx2, HB1.out.trans (hA2.mono HB1.out.size)⟩
    obtain ⟨j, h1, _, h2⟩ := hx1 hb
    exact ⟨j, h1, h2⟩

set_option maxHeartbeats 4000000 in
set_option maxRecDepth 100000 in
theorem kidBelow_w (lv nx : Int) (lo hi : ByteArray) (la : Bool) (ak av ac : Option Addr) (nk ck nv cv nc cc : Nat) (ks : List ByteArray) (vs : List Nat) (cs : List Int) (k : ByteArray) (w : World) (hN : NdAt w ak av ac nk ck nv cv nc cc ks vs cs) (hk : k.size ≤ 140737488355328) (hx : ∀ x ∈ ks, x.size ≤ 140737488355328) (hn : nk ≤ 274877906944) :
    Calls Tryz.prog 51 #[.agg #[.int .i64 lv, .string lo, .string hi, .bool la, .int .i64 nx, .slice ak nk ck, .slice av nv cv, .slice ac nc cc], .string k] w fun e w' => KidSays w w' e lv ks cs k true := by
  have HB := Lib.hid (boxed_below w (.cells #[.int .i64 lv, .string lo, .string hi, .bool la, .int .i64 nx, .slice ak nk ck, .slice av nv cv, .slice ac nc cc] 36))
  have HNB := Lib.hid (NB.new w #[.int .i64 lv, .string lo, .string hi, .bool la, .int .i64 nx, .slice ak nk ck, .slice av nv cv, .slice ac nc cc])
  have HLN := Lib.hid (rd_len hN.k).1
  have hF : ∀ W, Below w.heap.size w W → Calls Tryz.prog 95 #[.slice ak nk ck, .string k] W fun e w' => ∃ a : Nat, e = .returned (.int .i64 ((a : Int) - 1)) ∧ (Rises ks → Edge ks.length a (pFind ks k)) ∧ Below W.heap.size W w' := by
    intro W hb
    by_cases hr : Rises ks
    · refine (below_any (.slice ak nk ck) k ks W (hN.k.keep hb) hk hx (by have := HLN.out; omega) hr).mono ?_
      rintro e w' ⟨a, rfl, hE, hb2⟩
      exact ⟨a, rfl, fun _ => hE, hb2⟩
    · refine (below_in (.slice ak nk ck) k ks W (hN.k.keep hb) hk hx (by have := HLN.out; omega)).mono ?_
      rintro e w' ⟨a, rfl, _, hb2⟩
      exact ⟨a, rfl, fun h => absurd h hr, hb2⟩
  have HF := Lib.hid hF
  have HK := Lib.hid (fun t W (hb : Below w.heap.size w W) => kidAt_w lv nx lo hi la ak av ac nk ck nv cv nc cc t cs W (hN.c.keep hb))
  obtain ⟨w1, hw1⟩ : ∃ w1, w1 = w.alloc (.cells #[.int .i64 lv, .string lo, .string hi, .bool la, .int .i64 nx, .slice ak nk ck, .slice av nv cv, .slice ac nc cc] 36) := ⟨_, rfl⟩
  have HC : Hid (∀ V, Below w1.heap.size w1 V → (V.cell? ⟨w.heap.size, 0, none⟩ = some (.int .i64 lv) ∧ V.cell? ⟨w.heap.size, 1, none⟩ = some (.string lo) ∧ V.cell? ⟨w.heap.size, 2, none⟩ = some (.string hi) ∧ V.cell? ⟨w.heap.size, 3, none⟩ = some (.bool la) ∧ V.cell? ⟨w.heap.size, 4, none⟩ = some (.int .i64 nx) ∧ V.cell? ⟨w.heap.size, 5, none⟩ = some (.slice ak nk ck) ∧ V.cell? ⟨w.heap.size, 6, none⟩ = some (.slice av nv cv) ∧ V.cell? ⟨w.heap.size, 7, none⟩ = some (.slice ac nc cc)) ∧ Below w1.heap.size w1 V) := Lib.hid (fun V hV => ⟨(NB.below (V := w1) (by rw [hw1]; exact HNB.out) hV).cells, hV⟩)
  have HB1 : Hid (Below w.heap.size w w1) := Lib.hid (by rw [hw1]; exact HB.out)
  have HW1 := Lib.hid hw1
  have hS0 := HC.out w1.drew (Below.refl _ _).drew
  clear hN hk hx hn hw1 hF
  go_enter Tryz.func51, Tryz.ntmps51
  go_wp2
  rw [← HW1.out]
  first | (go_region_held_law (fun V => (V.cell? ⟨w.heap.size, 0, none⟩ = some (.int .i64 lv) ∧ V.cell? ⟨w.heap.size, 1, none⟩ = some (.string lo) ∧ V.cell? ⟨w.heap.size, 2, none⟩ = some (.string hi) ∧ V.cell? ⟨w.heap.size, 3, none⟩ = some (.bool la) ∧ V.cell? ⟨w.heap.size, 4, none⟩ = some (.int .i64 nx) ∧ V.cell? ⟨w.heap.size, 5, none⟩ = some (.slice ak nk ck) ∧ V.cell? ⟨w.heap.size, 6, none⟩ = some (.slice av nv cv) ∧ V.cell? ⟨w.heap.size, 7, none⟩ = some (.slice ac nc cc)) ∧ Below w1.heap.size w1 V) (first | (with_reducible exact hS0) | exact HC.out _ hA1 | exact HC.out _ hA2 | assumption) (first | (go_at_call 95; refine (HF.out _ (HB1.out.trans ((Below.refl w1.heap.size w1).drew.mono HB1.out.size))).mono ?_; rintro e wa ⟨a1, rfl, hE1, hb1⟩; have hA1 := (Below.refl w1.heap.size w1).drew.trans (hb1.mono (Nat.le_refl _))) | (go_at_call 87; refine (HK.out _ _ (HB1.out.trans (hA1.mono HB1.out.size))).mono ?_; rintro e wb ⟨x1, b1, rfl, hx1, hx2, hb2⟩; have hA2 := hA1.trans (hb2.mono hA1.size)))) | fail
  all_goals
    go_wp2
    go_ret2
    refine ⟨x1, b1, rfl, fun hb => ?_, kid_says (q := pFind ks k) (a := a1) (fun i => rfl) hE1 hx1 hx2, HB1.out.trans (hA2.mono HB1.out.size)⟩
    obtain ⟨j, h1, _, h2⟩ := hx1 hb
    exact ⟨j, h1, h2⟩
end Go.Proofs.YtdbklklmpnlinaaGreat
