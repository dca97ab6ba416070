/- The chapter's examples hold (bowerlaw01.lives): it returns true, and nothing that was there has turned. No condition. -/
import Derived.Test.YtajheohdhiojcaaSipWrite
import Derived.Test.YtajheohdhiojcaaEyeGather
import Derived.Laws.IdiomStrings
namespace Go.Proofs.Ytajheohdhiojcaa
open Go.RowKit

theorem pen_new (w : World) : Pen (w.alloc (.cells #[.slice none 0 0] 27)) w.heap.size w.heap.size [] :=
  ⟨_, heap_alloc_new _ _, World.ownsRow_nil _ _ _ _, by simp [Value.ownBlock], Nat.le_refl _⟩

theorem num_two (B pb : Nat) (x y : Int) (l : List UInt8) (w : World) (hx : 0 ≤ x ∧ x < 18446744073709551616) (hy : 0 ≤ y ∧ y < 18446744073709551616) (hl : l.length ≤ 35184372088832) (hpen : Pen w B pb l) (hB : B ≤ w.heap.size) (g : Nat) (hg : g = w.heap.size) :
    Calls Try.prog 27 #[.pointer (some ⟨pb, 0, none⟩), .slice (some ⟨g, 0, none⟩) 2 2] (w.alloc (.cells #[.int .u64 x, .int .u64 y] 28)) fun e w' => e = .returned (.tuple #[]) ∧ DigitsDone w w' B pb (l ++ nums [x.toNat, y.toNat]) := by
  subst hg
  have hlt := hpen.lt
  refine (penNum_any B pb w.heap.size 2 2 [x.toNat, y.toNat] l _ (by simp; omega) rfl (by omega) hl (hpen.alloc _) (by simp; omega) (by omega) ?_ ?_).mono ?_
  · rw [penRow_alloc hlt]
    intro e
    have := (hpen.row _ e.symm).2.1
    omega
  · intro j hj
    match j, hj with
    | 0, _ => exact (World.cell?_alloc_new _ _ _ _).trans (by simp; omega)
    | 1, _ => exact (World.cell?_alloc_new _ _ _ _).trans (by simp; omega)
  · rintro e w' ⟨rfl, hd⟩
    exact ⟨rfl, hd.1, ((Wr.refl _ _).alloc hlt _).trans hd.2⟩

theorem int_two (B pb : Nat) (x y : Int) (l : List UInt8) (w : World) (hx : -9223372036854775808 ≤ x ∧ x ≤ 9223372036854775807) (hy : -9223372036854775808 ≤ y ∧ y ≤ 9223372036854775807) (hl : l.length ≤ 17592186044416) (hpen : Pen w B pb l) (hB : B ≤ w.heap.size) (g : Nat) (hg : g = w.heap.size) :
    Calls Try.prog 53 #[.pointer (some ⟨pb, 0, none⟩), .slice (some ⟨g, 0, none⟩) 2 2] (w.alloc (.cells #[.int .i64 x, .int .i64 y] 3)) fun e w' => e = .returned (.tuple #[]) ∧ DigitsDone w w' B pb (l ++ nums (zigs [x, y])) := by
  subst hg
  have hlt := hpen.lt
  refine (penInt_any B pb w.heap.size 2 2 [x, y] l _ (by simpa using ⟨hx, hy⟩) rfl (by omega) hl (hpen.alloc _) (by simp; omega) (by omega) ?_ ?_).mono ?_
  · rw [penRow_alloc hlt]
    intro e
    have := (hpen.row _ e.symm).2.1
    omega
  · intro j hj
    match j, hj with
    | 0, _ => exact (World.cell?_alloc_new _ _ _ _).trans (by simp)
    | 1, _ => exact (World.cell?_alloc_new _ _ _ _).trans (by simp)
  · rintro e w' ⟨rfl, hd⟩
    exact ⟨rfl, hd.1, ((Wr.refl _ _).alloc hlt _).trans hd.2⟩

/-- 'string(b)' of a row that owns the bytes l. -/
theorem conv_own {w : World} {B : Nat} {v : Value} {l : List UInt8} (h : w.ownsRow B 5 1 v l.length (Lib.byteCells l)) : (convert 25 9 v).run Try.prog w = .ok (.string ⟨l.toArray⟩) w := by
  rcases h.2 with ⟨rfl, hn⟩ | ⟨g, cap, cur, rfl, _⟩
  · have : l = [] := List.eq_nil_of_length_eq_zero hn
    subst this
    have := run_convert_bytes_string (P := Try.prog) w 25 9 5 none 0 0 Try.underlying25 Try.underlying5 Try.underlying9
    rw [this]
    rfl
  · refine run_convert_bytes_back (P := Try.prog) w 25 9 5 ⟨g, 0, none⟩ cap l Try.underlying25 Try.underlying5 Try.underlying9 (fun j hj => ?_)
    exact h.cells (g := g) rfl j _ (by simp [Lib.byteCells, hj])

theorem lives_bytes : nums [(0 : Int).toNat, (300 : Int).toNat] ++ nums (zigs [-1, 64]) ++ (Lib.uvarint 2 ++ [97, 98]) = [0, 172, 2, 1, 128, 1, 2, 97, 98] := by
  have z1 : Lib.zigzag (-1) = 1 := by decide
  have z2 : Lib.zigzag 64 = 128 := by decide
  have u0 : Lib.uvarint 0 = [0] := Lib.uvarint_small (by omega)
  have u1 : Lib.uvarint 1 = [1] := Lib.uvarint_small (by omega)
  have u2 : Lib.uvarint 2 = [2] := Lib.uvarint_small (by omega)
  have u300 : Lib.uvarint 300 = [172, 2] := by rw [Lib.uvarint_big (by omega), show 300 / 128 = 2 from rfl, u2]; rfl
  have u128 : Lib.uvarint 128 = [128, 1] := by rw [Lib.uvarint_big (by omega), show 128 / 128 = 1 from rfl, u1]; rfl
  simp [nums, zigs, z1, z2, u0, u1, u2, u300, u128]

theorem bs_lit (w : World) (eb : Nat) (h : w.heap.size < eb) : Bs (w.alloc (.cells #[.int .u8 172, .int .u8 2] 5)) eb (.slice (some ⟨w.heap.size, 0, none⟩) 2 2) [172, 2] :=
  ⟨_, _, rfl, Nat.le_refl _, by omega, fun _ => ⟨w.heap.size, 0, rfl, by omega, fun j hj => by
    match j, hj with
    | 0, _ => exact (World.cell?_alloc_new _ _ _ _).trans (by simp)
    | 1, _ => exact (World.cell?_alloc_new _ _ _ _).trans (by simp)⟩⟩

theorem rnum_lit : rnum 300 [172, 2] = (300, 0, []) := by decide +kernel

theorem Eye.keep {w w' : World} {eb : Nat} {bs : List UInt8} {f : Int} (h : Eye w eb bs f) (hb : Below w.heap.size w w') : Eye w' eb bs f := by
  obtain ⟨v, h1, ao, c, h2, h3, h4, h5⟩ := h
  refine ⟨v, by rw [hb.block eb (lt_of_block h1)]; exact h1, ao, c, h2, h3, h4, fun hne => ?_⟩
  obtain ⟨g, o, e, hg, hc⟩ := h5 hne
  exact ⟨g, o, e, hg, fun j hj => (hb.cell (p := ⟨g, o + j, none⟩) (World.block_lt_of_cell? w _ (hc j hj))).trans (hc j hj)⟩

set_option maxHeartbeats 3200000 in
set_option maxRecDepth 100000 in
theorem lives01 (w : World) : Calls Try.prog 16 #[] w fun e w' => e = .returned (.bool true) ∧ Below w.heap.size w w' := by
  have hp0 := pen_new w
  go_enter Try.func16, Try.ntmps16
  go_wp2_with fail
  refine (num_two w.heap.size w.heap.size 0 300 [] _ (by omega) (by omega) (by simp) hp0 (by simp) _ (by simp)).mono ?_
  rintro e w1 ⟨rfl, hp1, hw1⟩
  have s1 : w.heap.size < w1.heap.size := by have := hw1.size; simp at this; omega
  go_wp2_with fail
  refine (int_two w.heap.size w.heap.size (-1) 64 _ _ (by omega) (by omega) ?h2 hp1 (by omega) _ (by simp)).mono ?_
  case h2 => rw [List.nil_append]; have := nums_length [(0 : Int).toNat, (300 : Int).toNat] (by simp); simp only [List.length_cons, List.length_nil] at this; omega
  rintro e w2 ⟨rfl, hp2, hw2⟩
  have s2 := hw2.size
  go_wp2_with fail
  refine (penText_any w.heap.size w.heap.size _ _ _ (by decide) ?h3 hp2 (by omega)).mono ?_
  case h3 =>
    have h1 := nums_length [(0 : Int).toNat, (300 : Int).toNat] (by simp)
    have h2 := nums_length (zigs [-1, 64]) (by simp [zigs]; decide)
    simp only [List.length_cons, List.length_nil, zigs, List.map] at h1 h2
    simp only [List.length_append, List.length_nil, zigs, List.map]
    omega
  rintro e w3 ⟨rfl, hp3, hw3⟩
  have s3 := hw3.size
  have hp4 : Pen w3 w.heap.size w.heap.size [0, 172, 2, 1, 128, 1, 2, 97, 98] := Eq.mp (congrArg (Pen w3 w.heap.size w.heap.size) lives_bytes) hp3
  clear hp0 hp1 hp2 hp3
  have hb3 : Below w.heap.size w w3 := ((Below.refl _ _).alloc (Nat.le_refl _) _).trans (((hw1.trans hw2).trans hw3).below (pen_new w) (by simp))
  clear hw1 hw2 hw3
  go_wp2_with fail
  refine (look_any [172, 2] _ _ (w3.heap.size + 1) (by simp) (bs_lit w3 _ (by omega))).mono ?_
  rintro e w4 ⟨rfl, he, hw4⟩
  have s4 : w3.heap.size < w4.heap.size := by have := hw4.size; simp at this; omega
  have hp5 : Pen w4 w.heap.size w.heap.size [0, 172, 2, 1, 128, 1, 2, 97, 98] := hp4.keep fun k hk => by
    have hk1 : k < w3.heap.size := by rcases hk with rfl | hk; exact hp4.lt; exact (hp4.row k hk).2.1
    rw [hw4.block k (by simp; omega) (by omega)]
    exact Below.heap_alloc _ _ _ hk1
  have hb4 : Below w.heap.size w w4 := (hb3.alloc (by omega) _).trans ⟨hw4.os, hw4.tape, hw4.output, hw4.size, fun k hk => hw4.block k (by simp; omega) (by omega)⟩
  clear hb3 hp4
  go_wp2_with fail
  refine (penBytes_any _ _ _ _ (by simp) hp5).mono ?_
  rintro e w5 ⟨v, rfl, hown, hbel⟩
  have hcv := conv_own hown
  have he5 := he.keep hbel
  have hb5 : Below w.heap.size w w5 := hb4.trans (hbel.mono (by omega))
  obtain ⟨ao, c, rfl⟩ := own_slice hown
  have hcv2 : (convert 25 9 (.slice ao 9 c)).run Try.prog w5 = .ok (.string ⟨#[0, 172, 2, 1, 128, 1, 2, 97, 98]⟩) w5 := hcv
  clear hown hp5 hb4 hcv
  go_wp2_with fail
  refine (eyeNum_any _ 300 _ _ he5).mono ?_
  rintro e w6 hn
  rw [rnum_lit] at hn
  obtain ⟨rfl, he6, hw6⟩ := hn
  have s6 := hw6.size
  have s5 := hbel.size
  go_wp2_with fail
  refine (close_end _ _ _ he6).mono ?_
  rintro e w7 ⟨rfl, rfl⟩
  go_wp2
  go_ret
  refine ⟨rfl, hb5.trans ⟨hw6.os, hw6.tape, hw6.output, hw6.size, fun k hk => hw6.block k (by omega) (by omega)⟩⟩
end Go.Proofs.Ytajheohdhiojcaa
