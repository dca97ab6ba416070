/- (box.Box).show, box.showRow, (box.Box).Show: how a box shows. Conditions: numbers that are numbers; at most some 2^40 bytes; the table of powers of ten is laid. -/
import Derived.Test.YtbghemndcndhpaaDoorBoxListM
import Derived.Test.YtbghemndcndhpaaDoorQuoteTxt
namespace Go.Proofs.YtbghemndcndhpaaDoor
open Go.RowKit

/-- The table of powers of ten, below a base. -/
def Tab (B : Nat) (w : World) : Prop := Lib.TabIs Tryd.prog w "internal/strconv.uint64pow10" .u64 Lib.pow10Tab ∧ ∃ g, Tryd.prog.globalNamed "internal/strconv.uint64pow10" = some g ∧ g < B

theorem Tab.below {B : Nat} {w w' : World} (h : Tab B w) (hb : Below B w w') : Tab B w' := by
  obtain ⟨h, g, hg, hlt⟩ := h
  refine ⟨?_, g, hg, hlt⟩
  unfold Lib.TabIs World.var? at h ⊢
  rw [hg] at h ⊢
  simp only [Option.bind_some] at h ⊢
  rw [hb.block g hlt]
  exact h
theorem Tab.at_ {B : Nat} {w : World} (h : Tab B w) {B' : Nat} (hB : B ≤ B') : Tab B' w := by
  obtain ⟨h, g, hg, hlt⟩ := h
  exact ⟨h, g, hg, by omega⟩

theorem appendUint_any (B u : Nat) (v : Value) (l : List UInt8) (w : World) (hu : u < 18446744073709551616) (hown : Own w B v l) (hB : B ≤ w.heap.size) (hl : l.length ≤ 70368744177664) (ht : Tab B w) :
    Calls Tryd.prog 34 #[v, .int .u64 u, .int .i64 10] w fun e w' => ∃ v', e = .returned v' ∧ Own w' B v' (l ++ Lib.decDigits u) ∧ Below B w w' := by
  have HC : Hid (Calls Tryd.prog 39 #[v, .int .u64 u, .int .i64 10] w fun e w' => ∃ v', e = .returned v' ∧ Own w' B v' (l ++ Lib.decDigits u) ∧ Below B w w') := by
    by_cases h : u < 100
    · refine Lib.hid ((Tryd.internal_strconv_AppendUint_10_small B l.length u h v _ w hown hB (by omega)).mono ?_)
      rintro e w' ⟨v', rfl, h1, h2, _⟩
      exact ⟨v', rfl, own_of h1 (by rw [Lib.byteCells_append]), h2⟩
    · refine Lib.hid ((Tryd.internal_strconv_AppendUint_10_big B l.length u (by omega) hu v _ w hown hB (by omega) ht.1).mono ?_)
      rintro e w' ⟨v', rfl, h1, h2, _⟩
      exact ⟨v', rfl, own_of h1 (by rw [Lib.byteCells_append]), h2⟩
  clear hown ht
  go_enter Tryd.func34, Tryd.ntmps34
  go_wp2_with fail
  refine HC.out.mono ?_
  rintro e w' ⟨v', rfl, h1, h2⟩
  have H := Lib.hid (And.intro h1 h2)
  clear h1 h2
  go_wp2
  go_ret
  exact ⟨v', rfl, H.out.1, H.out.2⟩

/-- A box shows behind what stands there. -/
def ShowOk (b : Bx) : Prop := ∀ (S : Nat → Prop) (B : Nat) (v ov : Value) (acc : List UInt8) (w : World), BoxIs S w b v → (∀ k, S k → k < B) → Own w B ov acc → B ≤ w.heap.size → okB b → Tab B w → acc.length + 30 * wB b ≤ 1099511627776 →
  Calls Tryd.prog 29 #[.agg #[v], ov] w fun e w' => ∃ v', e = .returned v' ∧ Own w' B v' (acc ++ showB b) ∧ Below B w w'

theorem own_str {w : World} {B n : Nat} {v : Value} {l : List UInt8} {s : ByteArray} {r : List UInt8} (h : w.ownsRow B 5 1 v n (Lib.byteCells l ++ Lib.strCells s)) (e : s.data.toList = r) : Own w B v (l ++ r) :=
  own_of h (by rw [Lib.byteCells_append, ← e]; rfl)

theorem ho_keep {w w' : World} {B : Nat} {v : Value} {l : List UInt8} (h : Own w B v l) (hb : Below w.heap.size w w') : Own w' B v l := by
  refine ⟨h.1, ?_⟩
  rcases h.2 with hn | ⟨g, cap, cur, rfl, h2, hg, r⟩
  · exact Or.inl hn
  · exact Or.inr ⟨g, cap, cur, rfl, h2, by rw [hb.block g (lt_of_block hg)]; exact hg, r⟩

theorem below_own {B : Nat} {w w1 w2 : World} {v : Value} {l : List UInt8} (hb : Below B w w1) (ho : Own w1 B v l) (hB : B ≤ w1.heap.size) (hg : w1.grownBy w2 v.ownBlock) : Below B w w2 :=
  hb.grown hg hB (fun k hk => (ho.lt k hk).1)

set_option maxHeartbeats 2000000 in
set_option maxRecDepth 100000 in
theorem show_truth (b : Bool) : ShowOk (.truth b) := by
  intro S B v ov acc w hv hS ho hB hok ht hl
  rw [BoxIs] at hv
  subst hv
  obtain ⟨i0, hi, hz0, hz1, hz2⟩ := info_parts Tryd.info5q
  have hb0 : Below B w (w.alloc (.cells #[.iface 4 (.bool b)] 29)) := (Below.refl _ _).alloc hB _
  have ho2 : Own (w.alloc (.cells #[.iface 4 (.bool b)] 29)) B ov acc := ho.alloc _
  clear ho ht hok
  cases b
  all_goals
    go_enter Tryd.func29, Tryd.ntmps29
    go_wp2_with (at_builtin; refine wpList_append_str_sep _ rfl _ _ 61 9 rfl B 5 i0 Tryd.underlying61 Tryd.underlying9 hi hz0 hz1 hz2 _ _ _ rfl ho2 _ rfl (by unfold maxLen; simp [ByteArray.size]; omega) (by simp [ByteArray.size]; omega) (by simp; omega) ?_)
    intro v2 w2 hown hgrow _
    have H := Lib.hid (And.intro (own_str hown rfl) (below_own hb0 ho2 (by simp; omega) hgrow))
    clear hown hgrow ho2
    go_wp2
    go_ret
    exact ⟨v2, rfl, H.out.1, H.out.2⟩

set_option maxHeartbeats 2000000 in
set_option maxRecDepth 100000 in
theorem show_nothing : ShowOk .nothing := by
  intro S B v ov acc w hv hS ho hB hok ht hl
  rw [BoxIs] at hv
  subst hv
  obtain ⟨i0, hi, hz0, hz1, hz2⟩ := info_parts Tryd.info5q
  have hb0 : Below B w ((w.alloc (.cells #[.nilIface] 29)).alloc (.cells #[.int .u8 45] 5)) := ((Below.refl _ _).alloc hB _).alloc (by simp; omega) _
  have ho2 : Own ((w.alloc (.cells #[.nilIface] 29)).alloc (.cells #[.int .u8 45] 5)) B ov acc := (ho.alloc _).alloc _
  have hc1 := cells1 (w.alloc (.cells #[.nilIface] 29)) (.int .u8 45) 5
  rw [World.size_alloc] at hc1
  clear ho ht hok
  go_enter Tryd.func29, Tryd.ntmps29
  go_wp2_with (at_builtin; refine wpList_append_sep _ rfl _ _ 61 rfl B 5 i0 (.int .u8 0) 1 1 Tryd.underlying61 hi hz0 hz1 hz2 rfl (by decide) _ _ _ rfl ho2 ⟨w.heap.size + 1, 0, none⟩ 1 1 [Value.int .u8 45] rfl rfl hc1 (ones1 _ _) (by unfold maxLen; omega) (by omega) (by simp; omega) ?_)
  intro v2 w2 hown hgrow _
  have H := Lib.hid (And.intro (own_of (l := acc ++ [45]) hown (by rw [Lib.byteCells_append]; rfl)) (below_own hb0 ho2 (by simp; omega) hgrow))
  clear hown hgrow ho2
  go_wp2
  go_ret
  exact ⟨v2, rfl, H.out.1, H.out.2⟩

set_option maxHeartbeats 2000000 in
set_option maxRecDepth 100000 in
theorem show_number (n : Nat) : ShowOk (.number n) := by
  intro S B v ov acc w hv hS ho hB hok ht hl
  rw [BoxIs] at hv
  rw [okB] at hok
  subst hv
  have hb0 : Below B w (w.alloc (.cells #[.iface 22 (.int .u64 n)] 29)) := (Below.refl _ _).alloc hB _
  have HC := Lib.hid (appendUint_any B n ov acc _ hok (ho.alloc (.cells #[.iface 22 (.int .u64 n)] 29)) (by simp; omega) (by omega) (ht.below hb0))
  have HB := Lib.hid hb0
  clear ho ht hok hb0
  go_enter Tryd.func29, Tryd.ntmps29
  go_wp2_with fail
  refine HC.out.mono ?_
  rintro e w' ⟨v', rfl, h1, h2⟩
  have H := Lib.hid (And.intro h1 h2)
  clear h1 h2
  go_wp2
  go_ret
  exact ⟨v', rfl, H.out.1, HB.out.trans H.out.2⟩

set_option maxHeartbeats 2000000 in
set_option maxRecDepth 100000 in
theorem show_text (s : ByteArray) : ShowOk (.text s) := by
  intro S B v ov acc w hv hS ho hB hok ht hl
  rw [BoxIs] at hv
  subst hv
  rw [wB] at hl
  obtain ⟨i0, hi, hz0, hz1, hz2⟩ := info_parts Tryd.info5q
  have hb0 : Below B w (w.alloc (.cells #[.iface 9 (.string s)] 29)) := (Below.refl _ _).alloc hB _
  have ho2 : Own (w.alloc (.cells #[.iface 9 (.string s)] 29)) B ov acc := ho.alloc _
  have HC := Lib.hid (put_any s (w.alloc (.cells #[.iface 9 (.string s)] 29)) (by omega))
  have hpl : (put s.data.toList).length + 1 ≤ 30 * wB (.text s) := show_len (.text s) (by rw [okB]; trivial)
  rw [wB] at hpl
  have HO := Lib.hid ho2
  have HB := Lib.hid hb0
  have HS : Hid (showB (.text s) = put s.data.toList) := Lib.hid (by rw [showB])
  clear ho ht hok ho2 hb0
  generalize put s.data.toList = ps at *
  go_enter Tryd.func29, Tryd.ntmps29
  go_wp2_with fail
  refine HC.out.mono ?_
  rintro e w1 ⟨rfl, hb1⟩
  have hbb := HB.out.trans (hb1.mono (by simp; omega))
  have ho3 : Own w1 B ov acc := ho_keep HO.out hb1
  have hB1 : B ≤ w1.heap.size := by have := hb1.size; simp at this; omega
  have HBB := Lib.hid hbb
  clear hbb hb1
  go_wp2_with (at_builtin; refine wpList_append_str_sep _ rfl _ _ 61 9 rfl B 5 i0 Tryd.underlying61 Tryd.underlying9 hi hz0 hz1 hz2 _ _ _ rfl ho3 _ rfl (by unfold maxLen; simp [ByteArray.size]; omega) (by simp [ByteArray.size]; omega) hB1 ?_)
  intro v2 w2 hown hgrow _
  have H := Lib.hid (And.intro (own_str (r := ps) hown (by simp)) (below_own HBB.out ho3 hB1 hgrow))
  clear hown hgrow ho3
  go_wp2
  go_ret
  exact ⟨v2, rfl, by rw [HS.out]; exact H.out.1, H.out.2⟩
end Go.Proofs.YtbghemndcndhpaaDoor
