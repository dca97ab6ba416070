/- The document's arena: its row of blocks; Rest, New. Condition: none but that generations are words. -/
import Derived.Test.YtlbafmmeglafhaaArenaNew
namespace Go.Proofs.Ytlbafmmeglafhaa
open Go.RowKit

theorem infoBlk : (Try.prog.info? 49).map (fun i => (i.zero, i.size, i.bytes)) = some (some (.agg #[.int .i64 0, .int .u64 0, .int .i64 0]), 3, 24) := by kernel_rfl

def bc (p : Bk) : List Value := [.int .i64 p.1, .int .u64 p.2.1, .int .i64 p.2.2]
def dc (l : List Bk) : List Value := l.flatMap bc
theorem dc_cons (p : Bk) (l : List Bk) : dc (p :: l) = .int .i64 p.1 :: .int .u64 p.2.1 :: .int .i64 p.2.2 :: dc l := rfl
theorem dc_append (l m : List Bk) : dc (l ++ m) = dc l ++ dc m := by unfold dc; rw [List.flatMap_append]
theorem dc_len (l : List Bk) : (dc l).length = l.length * 3 := by
  induction l with
  | nil => rfl
  | cons p l ih => rw [dc_cons, List.length_cons, List.length_cons, List.length_cons, ih, List.length_cons]; omega
theorem dc_get (l : List Bk) (j : Nat) (hj : j < l.length) : (dc l)[j * 3]? = some (.int .i64 l[j].1) ∧ (dc l)[j * 3 + 1]? = some (.int .u64 l[j].2.1) ∧ (dc l)[j * 3 + 2]? = some (.int .i64 l[j].2.2) := by
  induction l generalizing j with
  | nil => simp at hj
  | cons p l ih =>
    cases j with
    | zero => exact ⟨rfl, rfl, rfl⟩
    | succ j =>
      have h := ih j (by simpa using hj)
      rw [dc_cons, show (j + 1) * 3 = j * 3 + 1 + 1 + 1 by omega, show j * 3 + 1 + 1 + 1 + 1 = (j * 3 + 1) + 1 + 1 + 1 by omega, show j * 3 + 1 + 1 + 1 + 2 = (j * 3 + 2) + 1 + 1 + 1 by omega]
      simp only [List.getElem?_cons_succ]
      exact h
theorem dc_set (l : List Bk) (j : Nat) (p : Bk) : (((dc l).set (j * 3) (.int .i64 p.1)).set (j * 3 + 1) (.int .u64 p.2.1)).set (j * 3 + 2) (.int .i64 p.2.2) = dc (l.set j p) := by
  induction l generalizing j with
  | nil => rfl
  | cons q l ih =>
    cases j with
    | zero => rfl
    | succ j =>
      rw [dc_cons, show (j + 1) * 3 = j * 3 + 1 + 1 + 1 by omega, show j * 3 + 1 + 1 + 1 + 1 = (j * 3 + 1) + 1 + 1 + 1 by omega, show j * 3 + 1 + 1 + 1 + 2 = (j * 3 + 2) + 1 + 1 + 1 by omega]
      simp only [List.set_cons_succ]
      rw [ih j]
      rfl
theorem dc_one (l : List Bk) : ∀ v ∈ dc l, v.oneCell' = true := by
  intro v hv
  unfold dc at hv
  obtain ⟨p, _, hp⟩ := List.mem_flatMap.1 hv
  simp [bc] at hp
  rcases hp with rfl | rfl | rfl <;> rfl

/-- A row of the document's blocks of the call's own. -/
structure OwnD (w : World) (B : Nat) (v : Value) (l : List Bk) : Prop where
  own : ∃ h c cur, v = .slice (some ⟨h, 0, none⟩) l.length c ∧ B ≤ h ∧ Blk w h 49 cur ∧ l.length ≤ c ∧ c ≤ 9223372036854775807 ∧ cur.size = c * 3 ∧ cur.toList.take (l.length * 3) = dc l

section
variable {w w' : World} {B : Nat} {v : Value} {l : List Bk}
theorem OwnD.of (h : w.ownsRow B 49 3 v l.length (dc l)) (hn : v ≠ .slice none 0 0) : OwnD w B v l := by
  rcases h.2 with ⟨rfl, _⟩ | ⟨g, cap, cur, rfl, hb, hg, hnc, hm, hs, ht⟩
  · exact absurd rfl hn
  · exact ⟨g, cap, cur, rfl, hb, hg, hnc, by unfold maxLen at hm; omega, hs, ht⟩
theorem OwnD.below (h : OwnD w B v l) (hb : Below w.heap.size w w') : OwnD w' B v l := by
  obtain ⟨g, c, cur, h1, h2, h3, h4⟩ := h
  exact ⟨g, c, cur, h1, h2, h3.below hb, h4⟩
/-- Where only blocks of other types have turned. -/
theorem OwnD.keep {g h : Nat} {t t' : TypeId} {cs cs' : Array Value} (H : OwnD w B v l) (hk : Keep (fun k => k = g ∨ k = h) w w') (hg : Blk w g t cs) (hh : Blk w h t' cs') (ht : t ≠ 49) (ht' : t' ≠ 49) : OwnD w' B v l := by
  obtain ⟨h0, c, cur, h1, h2, h3, h4⟩ := H
  refine ⟨h0, c, cur, h1, h2, h3.keep hk ?_, h4⟩
  rintro (e | e)
  · exact hg.ne_ h3 ht e.symm
  · exact hh.ne_ h3 ht' e.symm
theorem OwnD.base {C : Nat} (h : OwnD w C v l) (hB : B ≤ C) : OwnD w B v l := by
  obtain ⟨g, c, cur, h1, h2, h3, h4⟩ := h
  exact ⟨g, c, cur, h1, by omega, h3, h4⟩
/-- Opened. -/
theorem OwnD.open (h : OwnD w B v l) : ∃ g c, v = .slice (some ⟨g, 0, none⟩) l.length c ∧ l.length ≤ c ∧ c ≤ 9223372036854775807 ∧ (∀ j, j < l.length → w.cell? ⟨g, j * 3, none⟩ = some (.int .i64 (st l j : Nat)) ∧ w.cell? ⟨g, j * 3 + 1, none⟩ = some (.int .u64 (gn l j : Nat)) ∧ w.cell? ⟨g, j * 3 + 2, none⟩ = some (.int .i64 (xx l j))) ∧ ∀ j v, (dc l)[j]? = some v → w.cell? ((⟨g, 0, none⟩ : Addr).add j) = some v := by
  obtain ⟨g, c, cur, h1, h2, h3, h4, h5, h6, h7⟩ := h
  have hc : ∀ j, j < l.length * 3 → w.cell? ⟨g, j, none⟩ = (dc l)[j]? := fun j hj => by
    rw [h3.cell, ← h7, List.getElem?_take_of_lt hj]; simp
  refine ⟨g, c, h1, h4, h5, fun j hj => ?_, fun j v hv => ?_⟩
  · have := dc_get l j hj
    rw [bk_eq hj] at this
    exact ⟨(hc _ (by omega)).trans this.1, (hc _ (by omega)).trans this.2.1, (hc _ (by omega)).trans this.2.2⟩
  · have hj : j < l.length * 3 := by
      have := (List.getElem?_eq_some_iff.1 hv).1
      rwa [dc_len] at this
    have hadd : (⟨g, 0, none⟩ : Addr).add j = ⟨g, j, none⟩ := by
      by_cases e : j = 0
      · subst e; simp [Addr.add]
      · simp [Addr.add, e]
    rw [hadd, hc j hj]
    exact hv
/-- A write into it. -/
theorem OwnD.set {g c : Nat} (h : OwnD w B (.slice (some ⟨g, 0, none⟩) l.length c) l) (j : Nat) (s x : Nat) (z : Int) : OwnD (((w.setCell ⟨g, j * 3, none⟩ (.int .i64 s)).setCell ⟨g, j * 3 + 1, none⟩ (.int .u64 x)).setCell ⟨g, j * 3 + 2, none⟩ (.int .i64 z)) B (.slice (some ⟨g, 0, none⟩) l.length c) (l.set j (s, x, z)) := by
  obtain ⟨g', c', cur, h1, h2, h3, h4, h5, h6, h7⟩ := h
  injection h1 with e1 e2 e3
  injection e1 with e1
  injection e1 with e1 _ _
  subst e1 e3
  refine ⟨g, c, _, by rw [List.length_set], h2, ((h3.set_ _ _).set_ _ _).set_ _ _, by rw [List.length_set]; exact h4, h5, by simpa using h6, ?_⟩
  rw [List.length_set, Array.toList_setIfInBounds, Array.toList_setIfInBounds, Array.toList_setIfInBounds, ← dc_set l j (s, x, z), ← h7, List.take_set, List.take_set, List.take_set]
theorem OwnD.frozen {g c n : Nat} (h : OwnD w B (.slice (some ⟨g, 0, none⟩) n c) l) (i : Nat) : w.frozen? ⟨g, i, none⟩ = false := by
  obtain ⟨g', c', cur, h1, h2, h3, _⟩ := h
  injection h1 with e1 e2 e3
  injection e1 with e1
  injection e1 with e1 _ _
  subst e1
  exact h3.frozen i
theorem OwnD.low {g n c : Nat} (h : OwnD w B (.slice (some ⟨g, 0, none⟩) n c) l) : B ≤ g := by
  obtain ⟨g', c', cur, h1, h2, _⟩ := h
  injection h1 with e1 e2 e3
  injection e1 with e1
  injection e1 with e1 _ _
  subst e1
  exact h2
end

theorem rest_any (v : Nat) (w : World) :
    Calls Try.prog 46 #[.int .u64 v] w fun e w' => e = .returned (.agg #[.int .i64 (leftS v : Nat), .int .u64 v, .int .i64 0]) ∧ Below w.heap.size w w' := by
  by_cases hv : v = 4294967295
  · have HS : Hid (leftS v = 2) := Lib.hid (by unfold leftS; rw [if_pos hv])
    have hd : ((v : Int) == 4294967295) = true := by simp; omega
    clear hv
    go_enter Try.func46, Try.ntmps46
    go_wp2
    refine bodyPost_ret (v := .agg #[.int .i64 2, .int .u64 v, .int .i64 0]) (by simp [results, Try.results46, go_sem, *]) rfl ⟨by rw [HS.out]; rfl, ?_⟩
    exact (one_alloc w _).2
  · have HS : Hid (leftS v = 0) := Lib.hid (by unfold leftS; rw [if_neg hv])
    have hd : ((v : Int) == 4294967295) = false := by simp; omega
    clear hv
    go_enter Try.func46, Try.ntmps46
    go_wp2
    refine bodyPost_ret (v := .agg #[.int .i64 0, .int .u64 v, .int .i64 0]) (by simp [results, Try.results46, go_sem, *]) rfl ⟨by rw [HS.out]; rfl, ?_⟩
    exact (one_alloc w _).2

theorem three_news (w : World) (a b c : Value) (t : TypeId) : ∀ j u, [a, b, c][j]? = some u → (w.alloc (.cells #[a, b, c] t)).cell? ((⟨w.heap.size, 0, none⟩ : Addr).add j) = some u :=
  fun j u hj => by
    have hadd : (⟨w.heap.size, 0, none⟩ : Addr).add j = ⟨w.heap.size, j, none⟩ := by
      by_cases e : j = 0
      · subst e; simp [Addr.add]
      · simp [Addr.add, e]
    rw [hadd, (Blk.new w t #[a, b, c]).cell]
    simpa using hj

def DGives (w w' : World) (e : Ending) (l : List Bk) : Prop := ∃ v, e = .returned v ∧ OwnD w' w.heap.size v l ∧ Below w.heap.size w w'

theorem own_some {w : World} {B : Nat} {v : Value} {l : List Bk} (h : w.ownsRow B 49 3 v l.length (dc l)) (hn : 0 < l.length) : OwnD w B v l :=
  OwnD.of h (fun e => by
    rcases h.2 with ⟨_, h0⟩ | ⟨g, cap, cur, rfl, _⟩
    · omega
    · cases e)
theorem own_lt {w : World} {B n : Nat} {v : Value} {xs : List Value} {t : TypeId} {s : Nat} (h : w.ownsRow B t s v n xs) : ∀ k, v.ownBlock = some k → B ≤ k := by
  intro k hk
  rcases h.2 with ⟨rfl, _⟩ | ⟨g, cap, cur, rfl, hb, _⟩
  · cases hk
  · simp [Value.ownBlock] at hk; omega
theorem own_keep {w w' : World} {B n : Nat} {v : Value} {xs : List Value} {t : TypeId} {s : Nat} (h : w.ownsRow B t s v n xs) (hb : Below w.heap.size w w') : w'.ownsRow B t s v n xs := by
  refine ⟨h.1, ?_⟩
  rcases h.2 with hn | ⟨g, cap, cur, rfl, hbg, hg, rest⟩
  · exact Or.inl hn
  · exact Or.inr ⟨g, cap, cur, rfl, hbg, by rw [hb.block g (lt_of_block hg)]; exact hg, rest⟩

set_option maxHeartbeats 4000000 in
set_option maxRecDepth 100000 in
theorem dnew_any (n v : Nat) (hn : 1 ≤ n ∧ n ≤ 8192) (w : World) :
    Calls Try.prog 16 #[.int .i64 n, .int .u64 v] w fun e w' => DGives w w' e (List.replicate n (leftS v, v, 0)) := by
  obtain ⟨i0, hi, hz0, hz1, hz2⟩ := info_parts infoBlk
  have HI := Lib.hid (And.intro hi (And.intro hz0 (And.intro hz1 hz2)))
  have HR := Lib.hid (fun W => rest_any v W)
  clear hi hz0 hz1 hz2
  go_enter Try.func16, Try.ntmps16
  go_wp2
  go_loopw [5, 6] (fun out s wr => ∃ i : Nat, s = .int .i64 i ∧ i ≤ n ∧ Hid (wr.ownsRow w.heap.size 49 3 out (List.replicate i ((leftS v, v, 0) : Bk)).length (dc (List.replicate i (leftS v, v, 0)))) ∧ Hid (Below w.heap.size w wr)) (fun _ s _ => n - (intOf s).toNat)
  case atStart => exact ⟨0, rfl, Nat.zero_le _, Lib.hid (World.ownsRow_nil _ _ _ _), Lib.hid (Below.refl _ _)⟩
  case round =>
    obtain ⟨i, rfl, hi, hO, hb⟩ := hrel
    by_cases hlt : i < n
    · have HN : Hid (List.replicate (i + 1) ((leftS v, v, 0) : Bk) = List.replicate i (leftS v, v, 0) ++ [(leftS v, v, 0)]) := Lib.hid (List.replicate_succ' ..)
      have HC : Hid (dc [(leftS v, v, 0)] = [.int .i64 (leftS v : Nat), .int .u64 v, .int .i64 0]) := Lib.hid rfl
      have HLN : Hid ((List.replicate i ((leftS v, v, 0) : Bk)).length = i) := Lib.hid (List.length_replicate ..)
      have hlq : (List.replicate i ((leftS v, v, 0) : Bk)).length ≤ 8192 := by rw [List.length_replicate]; omega
      generalize List.replicate i ((leftS v, v, 0) : Bk) = qs at *
      generalize hq : leftS v = ls at *
      have HQ := Lib.hid hq
      clear hq
      go_wp2_with fail
      refine (HR.out _).mono ?_
      rintro e w1 ⟨rfl, hb1⟩
      have HB := Lib.hid (hb.out.trans (hb1.mono hb.out.size))
      have HO := Lib.hid (own_keep hO.out hb1)
      clear hb1
      go_wp2_with ((with_reducible show wpList _ _ _ (⟨some 16, _, _, _, _, _⟩ :: _) _ _); refine wpList_append_own _ rfl (.tmp 12) (.tmp 15) 34 rfl w.heap.size 49 i0 (.agg #[.int .i64 0, .int .u64 0, .int .i64 0]) 3 24 Try.underlying34 HI.out.1 HI.out.2.1 HI.out.2.2.1 HI.out.2.2.2 rfl (by decide) _ qs.length (dc qs) rfl (own_keep HO.out (one_alloc w1 _).2) ⟨w1.heap.size, 0, none⟩ 1 1 [.int .i64 (ls : Nat), .int .u64 v, .int .i64 0] rfl rfl (three_news w1 (.int .i64 (ls : Nat)) (.int .u64 v) (.int .i64 0) _) (by intro u hu; simp at hu; rcases hu with rfl | rfl | rfl <;> rfl) (by unfold maxLen; omega) (by omega) (Nat.le_trans HB.out.size (by simp)) ?_; intro v9 w9 hown9 hgrow9 _; have O9 := Lib.hid hown9; have B9 := Lib.hid ((HB.out.alloc HB.out.size _).grown hgrow9 (Nat.le_trans HB.out.size (by simp)) (fun k hk => own_lt HO.out k hk)); clear hown9 hgrow9)
      go_roundw
      case rel => exact ⟨i + 1, by go_num, by omega, Lib.hid (by rw [HN.out, dc_append, List.length_append]; exact O9.out), B9⟩
      case measure => simp [intOf]; omega
    · obtain rfl : i = n := by omega
      go_wp2
      go_ret
      exact ⟨_, rfl, own_some hO.out (by simp; omega), hb.out⟩
end Go.Proofs.Ytlbafmmeglafhaa
