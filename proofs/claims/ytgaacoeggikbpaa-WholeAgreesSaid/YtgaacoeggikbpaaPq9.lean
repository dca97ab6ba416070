/- Rows of pairs: what a slice of them reads as; bowerref06.Get. Condition: at most 2^38 pairs. whole.rises: does a row of pairs rise? Conditions: there are few, their keys fit. whole.within: the pairs of a rising row that lie within a node's range. Conditions: there are few, their keys fit. whole.within, whole: the pairs of a rising row that lie within a node's range. Conditions: there are few, their keys fit. -/
import Derived.Test.YtgaacoeggikbpaaRowFacts
import Derived.Test.YtgaacoeggikbpaaKeyLess
import Derived.Test.YtgaacoeggikbpaaNodeKids
import Derived.Test.YtgaacoeggikbpaaFind
import Derived.Deep.QuietTactic
import Derived.BigQuiet
import Derived.Test.YtgaacoeggikbpaaNodeBase
import Derived.Test.YtgaacoeggikbpaaBoxKit
import Derived.Test.YtgaacoeggikbpaaLater
import Derived.Deep.DeepCutAuto
import Derived.WalkMore
namespace Go.Proofs.Ytgaacoeggikbpaa
open Go.RowKit

/-- The pair at a place. -/
def ntp (ps : List (ByteArray × Int)) (i : Nat) : ByteArray × Int := ps.getD i (⟨#[]⟩, 0)

theorem ntp_eq {ps : List (ByteArray × Int)} {i : Nat} (h : i < ps.length) : ntp ps i = ps[i] := by
  unfold ntp
  rw [List.getD_eq_getElem?_getD, List.getElem?_eq_getElem h]; rfl

/-- A slice value that reads as pairs, two cells each. -/
def RdP (w : World) (v : Value) (ps : List (ByteArray × Int)) : Prop :=
  ∃ ao c, v = .slice ao ps.length c ∧ ps.length ≤ c ∧ c ≤ 9223372036854775807 ∧ (0 < ps.length → ∃ g o, ao = some ⟨g, o, none⟩ ∧ ∀ j, j < ps.length → w.cell? ⟨g, o + j * 2, none⟩ = some (.string (ntp ps j).1) ∧ w.cell? ⟨g, o + j * 2 + 1, none⟩ = some (.int .u64 (ntp ps j).2))

theorem RdP.open {w : World} {v : Value} {ps : List (ByteArray × Int)} (h : RdP w v ps) : ∃ ao c, v = .slice ao ps.length c := by
  obtain ⟨ao, c, h1, _⟩ := h
  exact ⟨ao, c, h1⟩

theorem RdP.len {w : World} {ao : Option Addr} {n c : Nat} {ps : List (ByteArray × Int)} (h : RdP w (.slice ao n c) ps) : ps.length = n ∧ n ≤ c ∧ c ≤ 9223372036854775807 := by
  obtain ⟨ao', c', h1, h2, h3, h4⟩ := h
  injection h1 with e1 e2 e3
  omega

theorem RdP.at_ {w : World} {ao : Option Addr} {n c : Nat} {ps : List (ByteArray × Int)} (h : RdP w (.slice ao n c) ps) (i : Nat) (hi : i < n) :
    ∃ g o, ao = some ⟨g, o, none⟩ ∧ ∀ j, j < n → w.cell? ⟨g, o + j * 2, none⟩ = some (.string (ntp ps j).1) ∧ w.cell? ⟨g, o + j * 2 + 1, none⟩ = some (.int .u64 (ntp ps j).2) := by
  have hl := h.len
  obtain ⟨ao', c', h1, h2, h3, h4⟩ := h
  injection h1 with e1 e2 e3
  subst e1
  obtain ⟨g, o, e, hc⟩ := h4 (by omega)
  exact ⟨g, o, e, fun j hj => hc j (by omega)⟩

theorem RdP.keep {w w' : World} {v : Value} {ps : List (ByteArray × Int)} (h : RdP w v ps) (hb : Below w.heap.size w w') : RdP w' v ps := by
  obtain ⟨ao, c, h1, h2, h3, h4⟩ := h
  refine ⟨ao, c, h1, h2, h3, fun hp => ?_⟩
  obtain ⟨g, o, e, hc⟩ := h4 hp
  refine ⟨g, o, e, fun j hj => ?_⟩
  have hlt : g < w.heap.size := World.block_lt_of_cell? w _ (hc j hj).1
  exact ⟨(hb.cell (p := ⟨g, o + j * 2, none⟩) hlt).trans (hc j hj).1, (hb.cell (p := ⟨g, o + j * 2 + 1, none⟩) hlt).trans (hc j hj).2⟩

theorem txt_ne {a b : ByteArray} (h : a ≠ b) : (a.toList == b.toList) = false := by
  rw [beq_eq_false_iff_ne, ByteArray.toList_eq, ByteArray.toList_eq]
  intro e
  apply h
  apply ByteArray.ext
  apply Array.ext'
  exact e
theorem txt_eq {a b : ByteArray} (h : a = b) : (a.toList == b.toList) = true := by rw [h]; simp

/-- What a row of pairs has of a key: the first one. -/
def getP (ps : List (ByteArray × Int)) (k : ByteArray) : Int × Bool := match ps.find? (fun p => decide (p.1 = k)) with | some p => (p.2, true) | none => (0, false)

theorem getP_at {ps : List (ByteArray × Int)} {k : ByteArray} (i : Nat) (hi : i < ps.length) (hall : ∀ j, j < i → (ntp ps j).1 ≠ k) (he : (ntp ps i).1 = k) : getP ps k = ((ntp ps i).2, true) := by
  unfold getP
  have : ps.find? (fun p => decide (p.1 = k)) = some ps[i] := by
    rw [List.find?_eq_some_iff_getElem]
    refine ⟨by rw [← ntp_eq hi]; simpa using he, i, hi, rfl, fun j hj => ?_⟩
    have := hall j hj
    rw [ntp_eq (by omega)] at this
    simpa using this
  rw [this, ntp_eq hi]

theorem getP_no {ps : List (ByteArray × Int)} {k : ByteArray} (hall : ∀ j, j < ps.length → (ntp ps j).1 ≠ k) : getP ps k = (0, false) := by
  unfold getP
  have : ps.find? (fun p => decide (p.1 = k)) = none := by
    rw [List.find?_eq_none]
    intro p hp
    obtain ⟨j, hj, rfl⟩ := List.getElem_of_mem hp
    have := hall j hj
    rw [ntp_eq hj] at this
    simpa using this
  rw [this]

end Go.Proofs.Ytgaacoeggikbpaa

namespace Go.Proofs.Ytgaacoeggikbpaa
open Go.RowKit

/-- Each pair's key is less than the next one's. -/
def RisP (ps : List (ByteArray × Int)) : Prop := ∀ i, i + 1 < ps.length → cmp3 (ntp ps i).1.data.toList (ntp ps (i + 1)).1.data.toList < 0
set_option maxHeartbeats 2000000 in
set_option maxRecDepth 100000 in
theorem rises_any (ao : Option Addr) (n c : Nat) (ps : List (ByteArray × Int)) (w : World) (h : RdP w (.slice ao n c) ps) (hz : ∀ p ∈ ps, p.1.size ≤ 140737488355328) (hn : n ≤ 274877906943) :
    Calls Try.prog 18 #[.slice ao n c] w fun e w' => EveryGives w w' e (RisP ps) := by
  obtain ⟨ao', c', e, hc1, hc2, hc3⟩ := h
  injection e with e1 e2 e3
  subst e1 e2 e3
  have HP := Lib.hid hc3
  have HZ := Lib.hid (show ∀ j, j < ps.length → (ntp ps j).1.size ≤ 140737488355328 from fun j hj => by rw [ntp_eq hj]; exact hz _ (List.getElem_mem hj))
  obtain ⟨n, hn'⟩ : ∃ n, n = ps.length := ⟨_, rfl⟩
  rw [← hn'] at HP HZ hc1 hn ⊢
  have HN := Lib.hid hn'
  clear hz hc3 hn'
  go_enter Try.func18, Try.ntmps18
  go_wp2
  go_loopw [3] (fun s wr => ∃ t : Nat, s = .int .i64 ((t : Int) + 1) ∧ t ≤ n ∧ Hid (Drew w wr ∧ ∀ j, j < t → j + 1 < n → cmp3 (ntp ps j).1.data.toList (ntp ps (j + 1)).1.data.toList < 0)) (fun s _ => n + 1 - (intOf s).toNat)
  case atStart => exact ⟨0, rfl, Nat.zero_le _, Lib.hid ⟨Drew.refl _, fun j hj => absurd hj (Nat.not_lt_zero _)⟩⟩
  case round =>
    obtain ⟨t, rfl, ht, HV⟩ := hrel
    by_cases hlt : t + 1 < n
    · obtain ⟨g, o, rfl, hc⟩ := HP.out (by omega)
      obtain ⟨h0, _⟩ := hc t (by omega)
      obtain ⟨h1, _⟩ := hc (t + 1) hlt
      have HC := fun W => Lib.hid (compare_any (ntp ps t).1 (ntp ps (t + 1)).1 W (HZ.out t (by omega)) (HZ.out (t + 1) hlt))
      rw [← HV.out.1.cell0] at h0 h1
      obtain ⟨cc, hcc⟩ : ∃ cc, cc = cmp3 (ntp ps t).1.data.toList (ntp ps (t + 1)).1.data.toList := ⟨_, rfl⟩
      have HCC := Lib.hid hcc
      rw [← hcc] at HC
      obtain ⟨x, hx⟩ : ∃ x, x = (ntp ps t).1 := ⟨_, rfl⟩
      obtain ⟨y, hy⟩ : ∃ y, y = (ntp ps (t + 1)).1 := ⟨_, rfl⟩
      rw [← hx] at h0 HC
      rw [← hy] at h1 HC
      have hlt' : (t : Int) + 1 < n := by omega
      have hi0 : (t : Int) < n := by omega
      clear hc hcc hx hy
      by_cases hge : 0 ≤ cc
      · go_wp2
        go_quiet ((go_at_call 32; exact Calls.quiet_of (HC _).out))
        go_wp2
        go_ret
        exact ⟨false, rfl, ⟨fun h => (by cases h), fun h => by
          have := h t (by have := HN.out; omega)
          rw [← HCC.out] at this
          omega⟩, (HV.out.1.trans ⟨_, rfl⟩).below0 _⟩
      · go_wp2
        go_quiet ((go_at_call 32; exact Calls.quiet_of (HC _).out))
        go_wp2
        go_roundw
        case rel => exact ⟨t + 1, by go_num, by omega, Lib.hid ⟨HV.out.1.trans ⟨_, rfl⟩, fun j hj hj2 => by
          by_cases e : j = t
          · rw [e, ← HCC.out]; omega
          · exact HV.out.2 j (by omega) hj2⟩⟩
        case measure => simp [intOf]; omega
    · have hlt' : ¬ (t : Int) + 1 < n := by omega
      go_wp2
      go_ret
      exact ⟨true, rfl, ⟨fun _ => fun i hi => HV.out.2 i (by have := HN.out; omega) (by have := HN.out; omega), fun _ => rfl⟩, HV.out.1.below0 _⟩
end Go.Proofs.Ytgaacoeggikbpaa

namespace Go.Proofs.Ytgaacoeggikbpaa
open Go.RowKit

/-- The boxes of within: the row's, the node's. -/
structure WBox (W : World) (gm gn : Nat) (v : Value) (lv nx : Int) (lo hi : ByteArray) (la : Bool) (kv vv cw : Value) (ps : List (ByteArray × Int)) : Prop where
  row : BX W gm 26 #[v]
  nd : BX W gn 38 #[.int .i64 lv, .string lo, .string hi, .bool la, .int .i64 nx, kv, vv, cw]
  rd : RdP W v ps
  ks : ∀ j, j < ps.length → (ntp ps j).1.size ≤ 140737488355328
theorem WBox.keep {W W' : World} {gm gn : Nat} {v : Value} {lv nx : Int} {lo hi : ByteArray} {la : Bool} {kv vv cw : Value} {ps : List (ByteArray × Int)} (h : WBox W gm gn v lv nx lo hi la kv vv cw ps) (hb : Below W.heap.size W W') : WBox W' gm gn v lv nx lo hi la kv vv cw ps :=
  ⟨h.row.below hb, h.nd.below hb, h.rd.keep hb, h.ks⟩
/-- A search's answer. -/
def Found9 (w w' : World) (e : Ending) (n : Nat) (p : Nat → Bool) : Prop := ∃ at_, e = .returned (.int .i64 (at_ : Nat)) ∧ Edge n at_ p ∧ Below w.heap.size w w'
set_option maxHeartbeats 2000000 in
set_option maxRecDepth 100000 in
theorem within1_any (gm gn i : Nat) (v : Value) (lv nx : Int) (lo hi : ByteArray) (la : Bool) (kv vv cw : Value) (ps : List (ByteArray × Int)) (W : World) (hB : WBox W gm gn v lv nx lo hi la kv vv cw ps) (hi2 : i < ps.length) (hl : lo.size ≤ 140737488355328) :
    Calls Try.prog 34 #[.int .i64 i, .pointer (some ⟨gm, 0, none⟩), .pointer (some ⟨gn, 0, none⟩)] W fun e w' => e = .returned (.bool (!lss (ntp ps i).1.data.toList lo.data.toList)) ∧ Below W.heap.size W w' := by
  have HC := fun W => Lib.hid (compare_any (ntp ps i).1 lo W (hB.ks i hi2) hl)
  obtain ⟨ao, c, rfl, h2, h3, h4⟩ := hB.rd
  obtain ⟨g, o, rfl, hc⟩ := h4 (by omega)
  have k1 := hB.row.cell 0 rfl
  have k2 : W.cell? ⟨gn, 1, none⟩ = some (.string lo) := hB.nd.cell 1 rfl
  have q0 := (hc i hi2).1
  have HL := Lib.hid (cmp3_ge (ntp ps i).1.data.toList lo.data.toList)
  obtain ⟨n, hn⟩ : ∃ n, n = ps.length := ⟨_, rfl⟩
  rw [← hn] at k1 hi2 h2
  clear hB hc h4 hn hl
  obtain ⟨x, hx⟩ : ∃ x, x = (ntp ps i).1 := ⟨_, rfl⟩
  rw [← hx] at HC q0 HL ⊢
  obtain ⟨cc, hcc⟩ : ∃ cc, cc = cmp3 x.data.toList lo.data.toList := ⟨_, rfl⟩
  rw [← hcc] at HC HL
  clear hx hcc
  have hi1 : (i : Int) < n := by omega
  go_enter Try.func34, Try.ntmps34
  go_wp2
  go_quiet ((go_at_call 32; exact Calls.quiet_of (HC _).out))
  go_wp2
  go_ret
  exact ⟨ret_b HL.out, below_drewN (Below.refl _ _) _⟩
set_option maxHeartbeats 2000000 in
set_option maxRecDepth 100000 in
theorem within2_any (gm gn i : Nat) (v : Value) (lv nx : Int) (lo hi : ByteArray) (la : Bool) (ak av ac : Option Addr) (nk ck nv cv nc cc : Nat) (ps : List (ByteArray × Int)) (W : World) (hB : WBox W gm gn v lv nx lo hi la (.slice ak nk ck) (.slice av nv cv) (.slice ac nc cc) ps) (hi2 : i < ps.length) (hl : lo.size ≤ 140737488355328) (hh : hi.size ≤ 140737488355328) :
    Calls Try.prog 35 #[.int .i64 i, .pointer (some ⟨gn, 0, none⟩), .pointer (some ⟨gm, 0, none⟩)] W fun e w' => e = .returned (.bool (!insideB lo.data.toList hi.data.toList la (ntp ps i).1.data.toList)) ∧ Below W.heap.size W w' := by
  have HC := Lib.hid (fun W => covers_any lv nx lo hi la ak av ac nk ck nv cv nc cc (ntp ps i).1 W hl hh (hB.ks i hi2))
  obtain ⟨ao, c, rfl, h2, h3, h4⟩ := hB.rd
  obtain ⟨g, o, rfl, hc⟩ := h4 (by omega)
  have k1 := hB.row.cell 0 rfl
  have d0 : W.cell? ⟨gn, 0, none⟩ = some (.int .i64 lv) := hB.nd.cell 0 rfl
  have d1 : W.cell? ⟨gn, 1, none⟩ = some (.string lo) := hB.nd.cell 1 rfl
  have d2 : W.cell? ⟨gn, 2, none⟩ = some (.string hi) := hB.nd.cell 2 rfl
  have d3 : W.cell? ⟨gn, 3, none⟩ = some (.bool la) := hB.nd.cell 3 rfl
  have d4 : W.cell? ⟨gn, 4, none⟩ = some (.int .i64 nx) := hB.nd.cell 4 rfl
  have d5 : W.cell? ⟨gn, 5, none⟩ = some (.slice ak nk ck) := hB.nd.cell 5 rfl
  have d6 : W.cell? ⟨gn, 6, none⟩ = some (.slice av nv cv) := hB.nd.cell 6 rfl
  have d7 : W.cell? ⟨gn, 7, none⟩ = some (.slice ac nc cc) := hB.nd.cell 7 rfl
  have q0 := (hc i hi2).1
  obtain ⟨n, hn⟩ : ∃ n, n = ps.length := ⟨_, rfl⟩
  rw [← hn] at k1 hi2 h2
  clear hB hc h4 hn hl hh
  obtain ⟨x, hx⟩ : ∃ x, x = (ntp ps i).1 := ⟨_, rfl⟩
  rw [← hx] at HC q0 ⊢
  obtain ⟨bb, hbb⟩ : ∃ b, b = insideB lo.data.toList hi.data.toList la x.data.toList := ⟨_, rfl⟩
  rw [← hbb] at HC ⊢
  clear hx hbb
  have hi1 : (i : Int) < n := by omega
  have hlt0 : g < W.heap.size := World.block_lt_of_cell? W _ q0
  have hlt1 : gm < W.heap.size := World.block_lt_of_cell? W _ k1
  have hlt2 : gn < W.heap.size := World.block_lt_of_cell? W _ d0
  have HQ : ∀ p : Later W, p.w.cell? ⟨g, o + i * 2, none⟩ = some (.string x) ∧ p.w.cell? ⟨gm, 0, none⟩ = some (.slice (some ⟨g, o, none⟩) n c) ∧ p.w.cell? ⟨gn, 0, none⟩ = some (.int .i64 lv) ∧ p.w.cell? ⟨gn, 1, none⟩ = some (.string lo) ∧ p.w.cell? ⟨gn, 2, none⟩ = some (.string hi) ∧ p.w.cell? ⟨gn, 3, none⟩ = some (.bool la) ∧ p.w.cell? ⟨gn, 4, none⟩ = some (.int .i64 nx) ∧ p.w.cell? ⟨gn, 5, none⟩ = some (.slice ak nk ck) ∧ p.w.cell? ⟨gn, 6, none⟩ = some (.slice av nv cv) ∧ p.w.cell? ⟨gn, 7, none⟩ = some (.slice ac nc cc) := fun p => ⟨(p.h.cell (p := ⟨g, o + i * 2, none⟩) hlt0).trans q0, (p.h.cell (p := ⟨gm, 0, none⟩) hlt1).trans k1, (p.h.cell (p := ⟨gn, 0, none⟩) hlt2).trans d0, (p.h.cell (p := ⟨gn, 1, none⟩) hlt2).trans d1, (p.h.cell (p := ⟨gn, 2, none⟩) hlt2).trans d2, (p.h.cell (p := ⟨gn, 3, none⟩) hlt2).trans d3, (p.h.cell (p := ⟨gn, 4, none⟩) hlt2).trans d4, (p.h.cell (p := ⟨gn, 5, none⟩) hlt2).trans d5, (p.h.cell (p := ⟨gn, 6, none⟩) hlt2).trans d6, (p.h.cell (p := ⟨gn, 7, none⟩) hlt2).trans d7⟩
  have a0 := fun p : Later W => (HQ p).1
  have a1 := fun p : Later W => (HQ p).2.1
  have b0 := fun p : Later W => (HQ p).2.2.1
  have b1 := fun p : Later W => (HQ p).2.2.2.1
  have b2 := fun p : Later W => (HQ p).2.2.2.2.1
  have b3 := fun p : Later W => (HQ p).2.2.2.2.2.1
  have b4 := fun p : Later W => (HQ p).2.2.2.2.2.2.1
  have b5 := fun p : Later W => (HQ p).2.2.2.2.2.2.2.1
  have b6 := fun p : Later W => (HQ p).2.2.2.2.2.2.2.2.1
  have b7 := fun p : Later W => (HQ p).2.2.2.2.2.2.2.2.2
  clear HQ q0 k1 hlt0 hlt1 hlt2 d0 d1 d2 d3 d4 d5 d6 d7
  go_enter Try.func35, Try.ntmps35
  go_wp2
  refine wp_region_later (by kernel_rfl) (by kernel_rfl) ?_
  repeat (quiet_step ((go_at_call 36; (with_reducible exact later_of (HC.out _)))))
  refine wpQuiet_nil ?_
  intro _ hw'
  obtain ⟨⟨wq, hwq⟩, hw''⟩ := hw'
  subst hw''
  go_wp2
  go_ret
  exact ⟨rfl, hwq⟩
set_option maxHeartbeats 2000000 in
set_option maxRecDepth 100000 in
theorem search1_any (x1 x2 : Nat) (n : Nat) (p : Nat → Bool) (w : World) (hn : n ≤ 274877906944)
    (hf : ∀ W i, i < n → Below w.heap.size w W → Calls Try.prog 34 #[.int .i64 i, .pointer (some ⟨x1, 0, none⟩), .pointer (some ⟨x2, 0, none⟩)] W fun e w' => e = .returned (.bool (p i)) ∧ Below W.heap.size W w')
    (hm : ∀ a b, a ≤ b → b < n → p a = true → p b = true) :
    Calls Try.prog 33 #[.int .i64 n, .func (.func 34) #[] #[.pointer (some ⟨x1, 0, none⟩), .pointer (some ⟨x2, 0, none⟩)]] w fun e w' => Found9 w w' e n p := by
  have HF := Lib.hid hf
  have HM := Lib.hid hm
  clear hf hm
  go_enter Try.func33, Try.ntmps33
  go_wp2
  go_loopg [5, 6] n (fun kx s5 s6 wr => ∃ lo hi : Nat, s5 = .int .i64 lo ∧ s6 = .int .i64 hi ∧ lo ≤ hi ∧ hi ≤ n ∧ hi - lo ≤ kx ∧ Hid (Below w.heap.size w wr) ∧ Hid ((∀ t, t < lo → p t = false) ∧ (∀ t, hi ≤ t → t < n → p t = true)))
  case atStart => exact ⟨0, n, rfl, rfl, Nat.zero_le _, Nat.le_refl _, by omega, Lib.hid (Below.refl _ _), Lib.hid ⟨fun t ht => absurd ht (Nat.not_lt_zero _), fun t h1 h2 => absurd h2 (by omega)⟩⟩
  case round =>
    obtain ⟨lo, hi, rfl, rfl, hlh, hin, hg, hd, I⟩ := hrel
    by_cases hlt : lo < hi
    · have hc := HF.out wr ((lo + hi) / 2) (by omega) hd.out
      rw [show (((lo + hi) / 2 : Nat) : Int) = ((lo : Int) + (hi : Int)) / 2 by omega] at hc
      cases hp : p ((lo + hi) / 2) with
      | false =>
        rw [hp] at hc
        have HP := Lib.hid hp
        have HC := Lib.hid hc
        clear hp hc
        go_wp2_with fail
        refine HC.out.mono ?_
        rintro e w1 ⟨rfl, hd1⟩
        have HD := Lib.hid (hd.out.trans (hd1.mono hd.out.size))
        clear hd1
        go_wp2
        go_roundg (hi - ((lo + hi) / 2 + 1))
        case measure => omega
        case rel =>
          refine ⟨(lo + hi) / 2 + 1, hi, by rw [show ((lo : Int) + (hi : Int)) / 2 + 1 = (((lo + hi) / 2 + 1 : Nat) : Int) by omega], rfl, by omega, hin, Nat.le_refl _, HD, Lib.hid ⟨fun t ht => ?_, I.out.2⟩⟩
          cases h : p t with
          | false => rfl
          | true => have := HM.out t ((lo + hi) / 2) (by omega) (by omega) h; rw [HP.out] at this; cases this
      | true =>
        rw [hp] at hc
        have HP := Lib.hid hp
        have HC := Lib.hid hc
        clear hp hc
        go_wp2_with fail
        refine HC.out.mono ?_
        rintro e w1 ⟨rfl, hd1⟩
        have HD := Lib.hid (hd.out.trans (hd1.mono hd.out.size))
        clear hd1
        go_wp2
        go_roundg ((lo + hi) / 2 - lo)
        case measure => omega
        case rel => exact ⟨lo, (lo + hi) / 2, rfl, by rw [show ((lo : Int) + (hi : Int)) / 2 = (((lo + hi) / 2 : Nat) : Int) by omega], by omega, by omega, Nat.le_refl _, HD, Lib.hid ⟨I.out.1, fun t ht htn => HM.out ((lo + hi) / 2) t ht htn HP.out⟩⟩
    · obtain rfl : hi = lo := by omega
      go_wp2
      go_ret
      exact ⟨hi, rfl, ⟨hin, I.out.1, I.out.2⟩, hd.out⟩
set_option maxHeartbeats 2000000 in
set_option maxRecDepth 100000 in
theorem search2_any (x1 x2 : Nat) (n : Nat) (p : Nat → Bool) (w : World) (hn : n ≤ 274877906944)
    (hf : ∀ W i, i < n → Below w.heap.size w W → Calls Try.prog 35 #[.int .i64 i, .pointer (some ⟨x1, 0, none⟩), .pointer (some ⟨x2, 0, none⟩)] W fun e w' => e = .returned (.bool (p i)) ∧ Below W.heap.size W w')
    (hm : ∀ a b, a ≤ b → b < n → p a = true → p b = true) :
    Calls Try.prog 33 #[.int .i64 n, .func (.func 35) #[] #[.pointer (some ⟨x1, 0, none⟩), .pointer (some ⟨x2, 0, none⟩)]] w fun e w' => Found9 w w' e n p := by
  have HF := Lib.hid hf
  have HM := Lib.hid hm
  clear hf hm
  go_enter Try.func33, Try.ntmps33
  go_wp2
  go_loopg [5, 6] n (fun kx s5 s6 wr => ∃ lo hi : Nat, s5 = .int .i64 lo ∧ s6 = .int .i64 hi ∧ lo ≤ hi ∧ hi ≤ n ∧ hi - lo ≤ kx ∧ Hid (Below w.heap.size w wr) ∧ Hid ((∀ t, t < lo → p t = false) ∧ (∀ t, hi ≤ t → t < n → p t = true)))
  case atStart => exact ⟨0, n, rfl, rfl, Nat.zero_le _, Nat.le_refl _, by omega, Lib.hid (Below.refl _ _), Lib.hid ⟨fun t ht => absurd ht (Nat.not_lt_zero _), fun t h1 h2 => absurd h2 (by omega)⟩⟩
  case round =>
    obtain ⟨lo, hi, rfl, rfl, hlh, hin, hg, hd, I⟩ := hrel
    by_cases hlt : lo < hi
    · have hc := HF.out wr ((lo + hi) / 2) (by omega) hd.out
      rw [show (((lo + hi) / 2 : Nat) : Int) = ((lo : Int) + (hi : Int)) / 2 by omega] at hc
      cases hp : p ((lo + hi) / 2) with
      | false =>
        rw [hp] at hc
        have HP := Lib.hid hp
        have HC := Lib.hid hc
        clear hp hc
        go_wp2_with fail
        refine HC.out.mono ?_
        rintro e w1 ⟨rfl, hd1⟩
        have HD := Lib.hid (hd.out.trans (hd1.mono hd.out.size))
        clear hd1
        go_wp2
        go_roundg (hi - ((lo + hi) / 2 + 1))
        case measure => omega
        case rel =>
          refine ⟨(lo + hi) / 2 + 1, hi, by rw [show ((lo : Int) + (hi : Int)) / 2 + 1 = (((lo + hi) / 2 + 1 : Nat) : Int) by omega], rfl, by omega, hin, Nat.le_refl _, HD, Lib.hid ⟨fun t ht => ?_, I.out.2⟩⟩
          cases h : p t with
          | false => rfl
          | true => have := HM.out t ((lo + hi) / 2) (by omega) (by omega) h; rw [HP.out] at this; cases this
      | true =>
        rw [hp] at hc
        have HP := Lib.hid hp
        have HC := Lib.hid hc
        clear hp hc
        go_wp2_with fail
        refine HC.out.mono ?_
        rintro e w1 ⟨rfl, hd1⟩
        have HD := Lib.hid (hd.out.trans (hd1.mono hd.out.size))
        clear hd1
        go_wp2
        go_roundg ((lo + hi) / 2 - lo)
        case measure => omega
        case rel => exact ⟨lo, (lo + hi) / 2, rfl, by rw [show ((lo : Int) + (hi : Int)) / 2 = (((lo + hi) / 2 : Nat) : Int) by omega], by omega, by omega, Nat.le_refl _, HD, Lib.hid ⟨I.out.1, fun t ht htn => HM.out ((lo + hi) / 2) t ht htn HP.out⟩⟩
    · obtain rfl : hi = lo := by omega
      go_wp2
      go_ret
      exact ⟨hi, rfl, ⟨hin, I.out.1, I.out.2⟩, hd.out⟩
end Go.Proofs.Ytgaacoeggikbpaa

namespace Go.Proofs.Ytgaacoeggikbpaa
open Go.RowKit

theorem RisP.lt {ps : List (ByteArray × Int)} (h : RisP ps) (i j : Nat) (hij : i < j) (hj : j < ps.length) : lss (ntp ps i).1.data.toList (ntp ps j).1.data.toList = true := by
  have step : ∀ i, i + 1 < ps.length → lss (ntp ps i).1.data.toList (ntp ps (i + 1)).1.data.toList = true := fun i hi => by
    have h1 := h i hi
    have h2 := cmp3_neg (ntp ps i).1.data.toList (ntp ps (i + 1)).1.data.toList
    cases e : lss (ntp ps i).1.data.toList (ntp ps (i + 1)).1.data.toList with
    | true => rfl
    | false => rw [e] at h2; exact absurd h1 (by rw [h2]; simp)
  induction j with
  | zero => omega
  | succ j ih =>
    by_cases e : i = j
    · subst e; exact step i hj
    · exact lss_trans _ _ _ (ih (by omega) (by omega)) (step j hj)
theorem RisP.le {ps : List (ByteArray × Int)} (h : RisP ps) (i j : Nat) (hij : i ≤ j) (hj : j < ps.length) : i = j ∨ lss (ntp ps i).1.data.toList (ntp ps j).1.data.toList = true := by
  by_cases e : i = j
  · exact Or.inl e
  · exact Or.inr (h.lt i j (by omega) hj)
/-- Places that say yes from f on, of those the first t that say no again. -/
theorem part_filter {ps : List (ByteArray × Int)} {P : ByteArray × Int → Bool} {f t : Nat} (hf : f ≤ ps.length) (ht : f + t ≤ ps.length) (h1 : ∀ i, i < f → P (ntp ps i) = false) (h2 : ∀ i, f ≤ i → i < f + t → P (ntp ps i) = true) (h3 : ∀ i, f + t ≤ i → i < ps.length → P (ntp ps i) = false) : (ps.drop f).take t = ps.filter P := by
  have e : ps = ps.take f ++ ((ps.drop f).take t ++ (ps.drop f).drop t) := by rw [List.take_append_drop, List.take_append_drop]
  conv => rhs; rw [e]
  rw [List.filter_append, List.filter_append]
  have e1 : (ps.take f).filter P = [] := by
    rw [List.filter_eq_nil_iff]
    intro x hx
    obtain ⟨i, hi, rfl⟩ := List.mem_iff_getElem.1 hx
    rw [List.length_take] at hi
    have := h1 i (by omega)
    rw [ntp_eq (by omega)] at this
    simpa using this
  have e2 : ((ps.drop f).take t).filter P = (ps.drop f).take t := by
    rw [List.filter_eq_self]
    intro x hx
    obtain ⟨i, hi, rfl⟩ := List.mem_iff_getElem.1 hx
    rw [List.length_take, List.length_drop] at hi
    have := h2 (f + i) (by omega) (by omega)
    rw [ntp_eq (by omega)] at this
    simpa using this
  have e3 : ((ps.drop f).drop t).filter P = [] := by
    rw [List.filter_eq_nil_iff]
    intro x hx
    obtain ⟨i, hi, rfl⟩ := List.mem_iff_getElem.1 hx
    rw [List.length_drop, List.length_drop] at hi
    have := h3 (f + (t + i)) (by omega) (by omega)
    rw [ntp_eq (by omega)] at this
    simp only [List.getElem_drop]
    simpa using this
  rw [e1, e2, e3, List.append_nil, List.nil_append]
theorem ntp_drop {ps : List (ByteArray × Int)} {f i : Nat} (h : f + i < ps.length) : ntp (ps.drop f) i = ntp ps (f + i) := by
  rw [ntp_eq (by rw [List.length_drop]; omega), ntp_eq h, List.getElem_drop]
theorem ntp_takeW {ps : List (ByteArray × Int)} {t i : Nat} (h : i < t) (ht : t ≤ ps.length) : ntp (ps.take t) i = ntp ps i := by
  rw [ntp_eq (by rw [List.length_take]; omega), ntp_eq (by omega), List.getElem_take]
theorem RdP.cut {w : World} {ao ao2 : Option Addr} {n c : Nat} {ps : List (ByteArray × Int)} (h : RdP w (.slice ao n c) ps) (f : Nat) (hf : f ≤ n) (h2 : f < n → ao2 = ao.map fun x => x.add (f * 2)) : RdP w (.slice ao2 (n - f) (c - f)) (ps.drop f) := by
  obtain ⟨ao', c', e, q1, q2, q3⟩ := h
  injection e with e1 e2 e3
  subst e1 e3
  have hl : (ps.drop f).length = n - f := by rw [List.length_drop, e2]
  refine ⟨ao2, c - f, by rw [hl], by omega, by omega, fun hp => ?_⟩
  obtain ⟨g, o, e4, hc⟩ := q3 (by omega)
  refine ⟨g, o + f * 2, ?_, fun j hj => ?_⟩
  · rw [h2 (by omega), e4]
    simp only [Option.map_some]
    by_cases h0 : f * 2 = 0
    · simp [Addr.add, h0]
    · simp [Addr.add, h0]
  · rw [hl] at hj
    rw [ntp_drop (by omega), show o + f * 2 + j * 2 = o + (f + j) * 2 by omega]
    exact hc (f + j) (by omega)
theorem RdP.head {w : World} {ao : Option Addr} {n c : Nat} {ps : List (ByteArray × Int)} (h : RdP w (.slice ao n c) ps) (t : Nat) (ht : t ≤ n) : RdP w (.slice ao t c) (ps.take t) := by
  obtain ⟨ao', c', e, q1, q2, q3⟩ := h
  injection e with e1 e2 e3
  subst e1 e3
  have hl : (ps.take t).length = t := by rw [List.length_take]; omega
  refine ⟨ao, c, by rw [hl], by omega, by omega, fun hp => ?_⟩
  obtain ⟨g, o, e4, hc⟩ := q3 (by omega)
  refine ⟨g, o, e4, fun j hj => ?_⟩
  rw [hl] at hj
  rw [ntp_takeW hj (by omega)]
  exact hc j (by omega)
set_option maxHeartbeats 4000000 in
set_option maxRecDepth 100000 in
theorem within_any (lv nx : Int) (lo hi : ByteArray) (la : Bool) (ak av ac : Option Addr) (nk ck nv cv nc cc : Nat) (ao : Option Addr) (n c : Nat) (ps : List (ByteArray × Int)) (w : World) (h : RdP w (.slice ao n c) ps) (hr : RisP ps) (hz : ∀ p ∈ ps, p.1.size ≤ 140737488355328) (hn : n ≤ 274877906943) (hl : lo.size ≤ 140737488355328) (hh : hi.size ≤ 140737488355328) :
    Calls Try.prog 21 #[.agg #[.int .i64 lv, .string lo, .string hi, .bool la, .int .i64 nx, .slice ak nk ck, .slice av nv cv, .slice ac nc cc], .slice ao n c] w fun e w' => (∃ v, e = .returned v ∧ RdP w' v (ps.filter (fun p => insideB lo.data.toList hi.data.toList la p.1.data.toList))) ∧ Below w.heap.size w w' := by
  have hlen := h.len
  have HZ := Lib.hid (show ∀ j, j < ps.length → (ntp ps j).1.size ≤ 140737488355328 from fun j hj => by rw [ntp_eq hj]; exact hz _ (List.getElem_mem hj))
  have x1 := boxed_below w (.cells #[.int .i64 lv, .string lo, .string hi, .bool la, .int .i64 nx, .slice ak nk ck, .slice av nv cv, .slice ac nc cc] 38)
  have b1 := BX.new w 38 #[.int .i64 lv, .string lo, .string hi, .bool la, .int .i64 nx, .slice ak nk ck, .slice av nv cv, .slice ac nc cc]
  obtain ⟨gn, hgn⟩ : ∃ g, g = w.heap.size := ⟨_, rfl⟩
  rw [← hgn] at b1
  obtain ⟨W1, hW1⟩ : ∃ W, W = w.alloc (.cells #[.int .i64 lv, .string lo, .string hi, .bool la, .int .i64 nx, .slice ak nk ck, .slice av nv cv, .slice ac nc cc] 38) := ⟨_, rfl⟩
  rw [← hW1] at b1 x1
  have x2 := boxed_below W1 (.cells #[.slice ao n c] 26)
  have b2 := BX.new W1 26 #[.slice ao n c]
  obtain ⟨gm, hgm⟩ : ∃ g, g = W1.heap.size := ⟨_, rfl⟩
  rw [← hgm] at b2
  obtain ⟨W2, hW2⟩ : ∃ W, W = W1.alloc (.cells #[.slice ao n c] 26) := ⟨_, rfl⟩
  rw [← hW2] at b2 x2
  have x12 : Below w.heap.size w W2 := x1.trans (x2.mono x1.size)
  have HX := Lib.hid x12
  have hbox : WBox W2 gm gn (.slice ao n c) lv nx lo hi la (.slice ak nk ck) (.slice av nv cv) (.slice ac nc cc) ps := ⟨b2, b1.below x2, h.keep x12, HZ.out⟩
  have HBX := Lib.hid hbox
  have HRD := Lib.hid h
  have hne : gm ≠ gn := by have := lt_of_block b1; omega
  have HS1 := Lib.hid (search1_any gm gn n (fun i => !lss (ntp ps i).1.data.toList lo.data.toList) W2 (by omega) (fun W i hi2 hb => within1_any gm gn i _ lv nx lo hi la _ _ _ ps W (hbox.keep hb) (by omega) hl) (fun a b hab hb ha => by
    rcases hr.le a b hab (by omega) with e | e
    · rw [← e]; exact ha
    · cases hx : lss (ntp ps b).1.data.toList lo.data.toList with
      | false => rfl
      | true =>
        have := lss_trans _ _ _ e hx
        rw [this] at ha
        cases ha))
  have HH := Lib.hid (show _ ∧ _ ∧ _ ∧ _ from ⟨hr, hlen, hl, hh⟩)
  have k0 : W2.cell? ⟨gm, 0, none⟩ = some (.slice ao n c) := b2.cell 0 rfl
  have HG := Lib.hid (show gm ≠ gn ∧ w.heap.size ≤ gm from ⟨hne, by have := x1.size; omega⟩)
  have HW := Lib.hid (show gn = w.heap.size ∧ gm = w.heap.size + 1 ∧ W1 = _ ∧ W2 = _ from ⟨hgn, by rw [hgm, hW1, World.size_alloc], hW1, hW2⟩)
  have hcn : n ≤ c := hlen.2.1
  have hcb : c ≤ 9223372036854775807 := hlen.2.2
  clear hgn hgm hW1 hW2 x1 x2 x12 b1 b2 hbox hne h hr hz hlen hl hh
  go_enter Try.func21, Try.ntmps21
  go_upto_region 1 with fail
  rw [← HW.out.2.2.1, ← HW.out.2.1, ← HW.out.2.2.2, ← HW.out.1]
  clear HW
  go_wp2_with fail
  refine HS1.out.mono ?_
  rintro e w3 ⟨f, rfl, he, hb3⟩
  have hf : f ≤ n := he.1
  have hfi : (f : Int) ≤ n := by omega
  have HE := Lib.hid he
  have HB3 := Lib.hid hb3
  have hbx3 := HBX.out.keep hb3
  have HBX3 := Lib.hid hbx3
  clear k0 he hb3
  have k0 := hbx3.row.cell 0 rfl
  have f0 := hbx3.row.frozen 0
  obtain ⟨ao2, hao2⟩ : ∃ z, z = (if c = f then ao else Option.map (fun x => x.add (f * 2)) ao) := ⟨_, rfl⟩
  obtain ⟨W4, hW4⟩ : ∃ W, W = w3.setCell ⟨gm, 0, none⟩ (.slice ao2 (n - f) (c - f)) := ⟨_, rfl⟩
  have hb4 : Below w.heap.size w W4 := by
    rw [hW4]
    exact (HX.out.trans (HB3.out.mono HX.out.size)).setCell (p := ⟨gm, 0, none⟩) HG.out.2 _
  have hbx4 : WBox W4 gm gn (.slice ao2 (n - f) (c - f)) lv nx lo hi la (.slice ak nk ck) (.slice av nv cv) (.slice ac nc cc) (ps.drop f) := by
    refine ⟨by rw [hW4]; exact heap_setCell_same w3 gm 0 _ _ _ hbx3.row, by rw [hW4]; exact (Below.heap_setCell w3 ⟨gm, 0, none⟩ _ gn (fun e => HG.out.1 e.symm)).trans hbx3.nd, (HRD.out.keep hb4).cut f hf (fun hlt => by rw [hao2, if_neg (by omega)]), fun j hj => ?_⟩
    rw [List.length_drop] at hj
    rw [ntp_drop (by omega)]
    exact HZ.out _ (by omega)
  have hlp : ps.length = n := HH.out.2.1.1
  have HS2 := Lib.hid (search2_any gn gm (n - f) (fun i => !insideB lo.data.toList hi.data.toList la (ntp (ps.drop f) i).1.data.toList) W4 (by omega) (fun W i hi2 hb => within2_any gm gn i _ lv nx lo hi la ak av ac nk ck nv cv nc cc (ps.drop f) W (hbx4.keep hb) (by rw [List.length_drop]; omega) HH.out.2.2.1 HH.out.2.2.2) (fun a b hab hb ha => by
    rw [ntp_drop (by omega)] at ha ⊢
    have hge : (!lss (ntp ps (f + a)).1.data.toList lo.data.toList) = true := HE.out.2.2 (f + a) (by omega) (by omega)
    rcases HH.out.1.le (f + a) (f + b) (by omega) (by omega) with e | e
    · rw [← e]; exact ha
    · unfold insideB at ha ⊢
      rw [hge, Bool.true_and] at ha
      simp only [Bool.not_eq_true', Bool.or_eq_false_iff] at ha
      have hx : lss (ntp ps (f + b)).1.data.toList hi.data.toList = false := by
        cases hx : lss (ntp ps (f + b)).1.data.toList hi.data.toList with
        | false => rfl
        | true =>
          have := lss_trans _ _ _ e hx
          rw [ha.2] at this
          cases this
      rw [ha.1, hx]
      simp))
  have HBX4 := Lib.hid hbx4
  have HB4 := Lib.hid hb4
  have HW4 := Lib.hid (show _ ∧ W4 = _ from ⟨hao2, hW4⟩)
  have k4 := hbx4.row.cell 0 rfl
  clear hbx3 hb4 hbx4 hW4 hao2 hlp
  go_upto_region 3 with fail
  rw [← HW4.out.1, ← HW4.out.2]
  clear HW4 k0 f0
  go_wp2_with fail
  refine HS2.out.mono ?_
  rintro e w5 ⟨t, rfl, he5, hb5⟩
  have ht : t ≤ n - f := he5.1
  have hti : (t : Int) ≤ ((n - f : Nat) : Int) := by omega
  have hbx5 := HBX4.out.keep hb5
  have HE5 := Lib.hid he5
  have HB5 := Lib.hid (HB4.out.trans (hb5.mono HB4.out.size))
  have HRD5 := Lib.hid (hbx5.rd.head t ht)
  have k5 := hbx5.row.cell 0 rfl
  obtain ⟨n2, hn2⟩ : ∃ z, z = n - f := ⟨_, rfl⟩
  obtain ⟨c2, hc2⟩ : ∃ z, z = c - f := ⟨_, rfl⟩
  have hnc2 : n2 ≤ c2 := by omega
  have htc : t ≤ c2 := by omega
  have htci : (t : Int) ≤ (c2 : Int) := by omega
  rw [← hn2, ← hc2] at k5
  rw [← hc2] at HRD5
  rw [← hn2] at hti ht
  have HNC := Lib.hid (show n2 = n - f ∧ c2 = c - f from ⟨hn2, hc2⟩)
  clear k4 he5 hb5 hbx5 hn2 hc2
  go_wp2
  go_ret
  refine ⟨⟨_, rfl, ?_⟩, HB5.out⟩
  have hlp : ps.length = n := HH.out.2.1.1
  have hend : (ps.drop f).take t = ps.filter (fun p => insideB lo.data.toList hi.data.toList la p.1.data.toList) := by
    have hn2 := HNC.out.1
    refine part_filter (by omega) (by omega) (fun i hi2 => ?_) (fun i h1 h2 => ?_) (fun i h1 h2 => ?_)
    · have : (!lss (ntp ps i).1.data.toList lo.data.toList) = false := HE.out.2.1 i hi2
      unfold insideB
      rw [this, Bool.false_and]
    · have : (!insideB lo.data.toList hi.data.toList la (ntp (ps.drop f) (i - f)).1.data.toList) = false := HE5.out.2.1 (i - f) (by omega)
      rw [ntp_drop (by omega), show f + (i - f) = i by omega] at this
      simpa using this
    · have : (!insideB lo.data.toList hi.data.toList la (ntp (ps.drop f) (i - f)).1.data.toList) = true := HE5.out.2.2 (i - f) (by omega) (by omega)
      rw [ntp_drop (by omega), show f + (i - f) = i by omega] at this
      simpa using this
  rw [← hend]
  exact HRD5.out
end Go.Proofs.Ytgaacoeggikbpaa
